package syntax_test

import (
	"math/rand"
	"slices"
	"strings"
	"testing"

	"codesearch/api"
	"codesearch/syntax"
	"codesearch/token"
)

// cloned returns a tree that shares no memory with another one.
func cloned(n api.Node) api.Node {
	n.Kids = slices.Clone(n.Kids)
	for i := range n.Kids {
		n.Kids[i] = cloned(n.Kids[i])
	}
	return n
}

func leaf(kind int, text string) api.Node { return api.Node{Kind: kind, Text: text} }

// written writes a tree as a source, with all parentheses that could be needed. If it is no tree of a module, what it writes is none, or a module with another tree.
func written(n api.Node) string {
	switch n.Kind {
	case api.NdModule:
		return joined(n.Kids, " ")
	case api.NdBlock:
		return "{" + joined(n.Kids, " ") + "}"
	case api.NdImport:
		return "import " + n.Text + ";" + joined(n.Kids, " ")
	case api.NdClass:
		if len(n.Kids) == 3 {
			return "class " + n.Text + before(" extends ", n.Kids[0]) + before(" implements ", n.Kids[1]) + "{" + joined(n.Kids[2].Kids, " ") + "}"
		}
	case api.NdInterface:
		if len(n.Kids) == 2 {
			return "interface " + n.Text + before(" extends ", n.Kids[0]) + "{" + joined(n.Kids[1].Kids, " ") + "}"
		}
	case api.NdFunc:
		if len(n.Kids) == 3 {
			end := joined(n.Kids[2].Kids, " ")
			if end == "" {
				end = ";"
			}
			return "func " + n.Text + "(" + joined(n.Kids[0].Kids, ",") + ")" + before(":", n.Kids[1]) + end
		}
	case api.NdVar:
		if len(n.Kids) == 2 {
			return "var " + n.Text + ":" + written(n.Kids[0]) + before("=", n.Kids[1]) + ";"
		}
	case api.NdParam:
		return n.Text + ":" + joined(n.Kids, " ")
	case api.NdType:
		return n.Text + joined(n.Kids, " ")
	case api.NdReturn:
		return "return " + joined(n.Kids, " ") + ";"
	case api.NdIf:
		if len(n.Kids) == 3 {
			return "if(" + written(n.Kids[0]) + ")" + written(n.Kids[1]) + before("else", n.Kids[2])
		}
	case api.NdWhile:
		if len(n.Kids) == 2 {
			return "while(" + written(n.Kids[0]) + ")" + written(n.Kids[1])
		}
	case api.NdAssign:
		return joined(n.Kids, "=") + ";"
	case api.NdDo:
		return joined(n.Kids, " ") + ";"
	}
	return "(" + expression(n) + ")"
}

func expression(n api.Node) string {
	switch n.Kind {
	case api.NdName, api.NdInt, api.NdConst:
		return n.Text + joined(n.Kids, " ")
	case api.NdText:
		return `"` + strings.NewReplacer("\\", "\\\\", "\"", "\\\"", "\n", "\\n").Replace(n.Text) + `"` + joined(n.Kids, " ")
	case api.NdMember:
		return joined(n.Kids, " ") + "." + n.Text
	case api.NdCall:
		if len(n.Kids) > 0 {
			return written(n.Kids[0]) + "(" + joined(n.Kids[1:], ",") + ")"
		}
	case api.NdNew:
		return "new " + n.Text + "(" + joined(n.Kids, ",") + ")"
	case api.NdUnary:
		return n.Text + " " + joined(n.Kids, " ")
	case api.NdBinary:
		return joined(n.Kids, " "+n.Text+" ")
	}
	return "#"
}

func joined(l []api.Node, separator string) string {
	var parts []string
	for _, n := range l {
		parts = append(parts, written(n))
	}
	return strings.Join(parts, separator)
}

// before writes the kids of a list behind a keyword or a mark, nothing if there are none.
func before(word string, list api.Node) string {
	if len(list.Kids) == 0 {
		return ""
	}
	return word + joined(list.Kids, ",")
}

// ofModule reports whether a tree is that of a module, by the definition: whether there is a source with this tree. It is not asked about more than MaxTokens tokens.
func ofModule(n api.Node) bool {
	again, _, err := syntax.Module(written(n))
	return err == api.OK && dump(again, false) == dump(n, false) && syntax.Same(again, n)
}

// texts are Texts that are right for some kinds and wrong for other ones.
var texts = append(append([]string{}, "", "a", "_", "_9", "Z", "int", strings.Repeat("n", api.MaxName), strings.Repeat("n", api.MaxName+1), "a.b", "a.b.c", "a.", ".b", ".", "a..b", "a. b", "a .b", " a", "a ", "a b", "a;", "1a", "a-b", "a\n", "\x00", "é", "$a", "$$a",
	strings.Repeat("n", api.MaxName)+"."+strings.Repeat("n", api.MaxName), strings.Repeat("n", api.MaxName+1)+".a", "a."+strings.Repeat("n", api.MaxName+1), "a.if", "new.b", "a.1", "1.a", "if.", "0", "1", "9", "00", "01", "007", "123456789", "1234567890", "000000000", "-1", "+1", "1.0", "0x1", " 1", `"`, `\`, `"a"`, "\t", "\r", "\x1f", "\x7f", "\x80", "a\"\\\n~ ",
	strings.Repeat("s", api.MaxPath), strings.Repeat("s", api.MaxPath+1), strings.Repeat("\n", api.MaxPath), strings.Repeat("\"", api.MaxPath+1)),
	strings.Fields("import class interface extends implements func var return if else while new true false null this True trues { } ( ) ; , : . = == != < > + - * / % ! && || & | === <= >= ++ !!")...)

// judged compares Right with the definition.
func judged(t *testing.T, n api.Node) bool {
	t.Helper()
	got, want := syntax.Right(n), ofModule(n)
	if got != want {
		t.Errorf("Right is %v for %q: %s", got, written(n), dump(n, false))
	}
	return got
}

// places calls f with each node of a tree, which f can change.
func places(n *api.Node, f func(n *api.Node)) {
	f(n)
	for i := range n.Kids {
		places(&n.Kids[i], f)
	}
}

// richest has every kind of node that a module can have, and each list with one kid at least and, as it comes twice, without kids.
const richest = `import a; import b;
class A extends B implements C, d.E { var n: int; var m: int = 1; func f() {} func g(a: int, b: c.D): void { return; } }
class B {} interface I extends J, K { func f(); func g(a: int): int; } interface J {}
func f(a: int) { var x: int = "s"; {} return null; return; if (a) {} else { b; } while (!a) { a = -1; } a.b = f(a, new A(b), new B()); if (a + b) {} f(); }
var v: a.B;`

func TestRightOneChange(t *testing.T) { // P12.3: one Kind, one Text or one number of Kids changed
	tree, _, err := syntax.Module(richest)
	if err != api.OK || !judged(t, tree) {
		t.Fatal(err)
	}
	rights, wrongs := 0, 0
	count := func() {
		if judged(t, tree) {
			rights++
		} else {
			wrongs++
		}
	}
	others := []api.Node{leaf(api.NdImport, "a"), leaf(api.NdType, "a"), leaf(api.NdBlock, ""), leaf(api.NdReturn, ""), leaf(api.NdName, "a"), leaf(api.NdInt, "1"), leaf(api.NdList, ""), leaf(api.NdMeta, "a"), leaf(api.NdMany, "a"), {}}
	places(&tree, func(n *api.Node) {
		others = append(others, cloned(*n))
	})
	places(&tree, func(n *api.Node) {
		whole := *n
		for kind := -2; kind <= 28; kind++ {
			n.Kind = kind
			count()
		}
		*n = whole
		for _, text := range texts {
			n.Text = text
			count()
		}
		*n = whole
		for i := range n.Kids {
			n.Kids = slices.Delete(slices.Clone(whole.Kids), i, i+1)
			count()
			n.Kids = append([]api.Node{whole.Kids[i]}, whole.Kids...)
			count()
		}
		for _, other := range others[:10] {
			n.Kids = append(slices.Clone(whole.Kids), other)
			count()
			n.Kids = append([]api.Node{other}, whole.Kids...)
			count()
		}
		n.Kids = nil
		count()
		*n = whole
	})
	places(&tree, func(n *api.Node) {
		whole := *n
		for _, other := range others {
			*n = other
			count()
			*n = whole
		}
	})
	if rights < 1000 || wrongs < 10000 || !judged(t, tree) {
		t.Errorf("%d right ones, %d others", rights, wrongs)
	}
}

func TestRightMade(t *testing.T) { // P12.3, P12.6
	rights := 0
	for seed := range 4000 {
		r := rand.New(rand.NewSource(int64(seed)))
		_, tree, tokens := made(r, module, 1+seed%4)
		if tokens > 200 {
			continue
		}
		tree = cloned(tree)
		var all []*api.Node
		places(&tree, func(n *api.Node) { all = append(all, n) })
		for range r.Intn(3) {
			n, other := all[r.Intn(len(all))], cloned(*all[r.Intn(len(all))])
			switch r.Intn(6) {
			case 0:
				n.Kind = r.Intn(27)
			case 1:
				n.Text = texts[r.Intn(len(texts))]
			case 2:
				n.Kids = append(slices.Clone(n.Kids), other)
			case 3:
				if len(n.Kids) > 0 {
					n.Kids = n.Kids[1:]
				}
			case 4:
				n.Text = other.Text
			case 5:
				n.Kids = other.Kids
			}
		}
		if syntax.Size(tree) < 400 && judged(t, tree) {
			rights++
		}
		places(&tree, func(n *api.Node) { n.At, n.End = r.Intn(9)-4, r.Intn(9)-4 })
		if moved := syntax.Right(tree); syntax.Size(tree) < 400 && moved != ofModule(tree) {
			t.Errorf("%s: %v with other positions", dump(tree, true), moved)
		}
	}
	if rights < 1000 {
		t.Errorf("only %d right ones", rights)
	}
}

func TestRightImports(t *testing.T) { // P12.3: imports behind a declaration
	imports, decl := leaf(api.NdImport, "a"), api.Node{Kind: api.NdVar, Text: "v", Kids: []api.Node{leaf(api.NdType, "int"), leaf(api.NdList, "")}}
	for i := range 1 << 6 {
		tree, last, want := api.Node{Kind: api.NdModule}, false, true
		for bit := range i % 7 {
			isDecl := i>>bit&1 == 1
			want = want && (isDecl || !last)
			last = isDecl
			tree.Kids = append(tree.Kids, map[bool]api.Node{true: decl, false: imports}[isDecl])
		}
		if got := syntax.Right(tree); got != want || got != ofModule(tree) {
			t.Errorf("%s: %v", dump(tree, false), got)
		}
	}
}

func TestRightTexts(t *testing.T) { // P12.3: every byte in every kind of Text
	for _, kind := range []int{api.NdName, api.NdInt, api.NdText, api.NdConst, api.NdNew} {
		for c := range 256 {
			for _, text := range []string{string([]byte{byte(c)}), "a" + string([]byte{byte(c)}), "1" + string([]byte{byte(c)}), string([]byte{byte(c)}) + "a", "a" + string([]byte{byte(c)}) + "b"} {
				value := api.Node{Kind: api.NdList, Kids: []api.Node{leaf(kind, text)}}
				judged(t, api.Node{Kind: api.NdModule, Kids: []api.Node{{Kind: api.NdVar, Text: "v", Kids: []api.Node{leaf(api.NdType, "int"), value}}}})
				if kind == api.NdName {
					judged(t, api.Node{Kind: api.NdModule, Kids: []api.Node{{Kind: api.NdVar, Text: text, Kids: []api.Node{leaf(api.NdType, "int"), leaf(api.NdList, "")}}}})
					judged(t, api.Node{Kind: api.NdModule, Kids: []api.Node{{Kind: api.NdVar, Text: "v", Kids: []api.Node{leaf(api.NdType, text), leaf(api.NdList, "")}}}})
				}
			}
		}
	}
}

func TestRightOtherTrees(t *testing.T) { // P12.3
	for what, l := range sentences {
		for _, s := range l {
			n, _, _ := parse(what, s)
			if got := syntax.Right(n); got != (what == module) {
				t.Errorf("%q: %v", s, got)
			}
			if in := (api.Node{Kind: api.NdModule, Kids: []api.Node{n}}); what == syntax.FragDecl || what == syntax.FragStmt {
				judged(t, in)
			}
		}
	}
	for kind := -1; kind <= 28; kind++ {
		if got := syntax.Right(leaf(kind, "")); got != (kind == api.NdModule) {
			t.Errorf("kind %d alone: %v", kind, got)
		}
	}
	if syntax.Right(leaf(api.NdModule, "m")) || syntax.Right(api.Node{}) {
		t.Error("a module with a Text is right")
	}
}

func TestRightLevels(t *testing.T) { // P12.3: MaxDepth levels and one more
	for levels := range 40 {
		value := leaf(api.NdName, "a")
		for range levels {
			value = api.Node{Kind: api.NdUnary, Text: "-", Kids: []api.Node{value}}
		}
		tree := api.Node{Kind: api.NdModule, Kids: []api.Node{{Kind: api.NdVar, Text: "v", Kids: []api.Node{leaf(api.NdType, "int"), {Kind: api.NdList, Kids: []api.Node{value}}}}}}
		if got := syntax.Right(tree); got != (levels <= api.MaxDepth-4) {
			t.Errorf("%d levels: %v", levels+4, got)
		}
	}
	for _, n := range nests {
		if n.what == module {
			tree, _, _ := syntax.Module(n.source(n.times))
			if !syntax.Right(tree) {
				t.Errorf("%q is not right", n.source(n.times))
			}
			var blocks []*api.Node
			places(&tree, func(m *api.Node) {
				if m.Kind == api.NdBlock && len(m.Kids) == 0 {
					blocks = append(blocks, m)
				}
			})
			for _, m := range blocks {
				m.Kids = []api.Node{leaf(api.NdBlock, "")}
			}
			if deeper := syntax.Depth(tree) > api.MaxDepth; syntax.Right(tree) == deeper {
				t.Errorf("%s: %v", dump(tree, false), !deeper)
			}
		}
	}
}

func TestRightLong(t *testing.T) { // P12.3: the number of tokens and the length do not matter
	var kids, args []api.Node
	for range 100000 {
		kids = append(kids, leaf(api.NdImport, strings.Repeat("i", api.MaxName)))
		args = append(args, leaf(api.NdText, strings.Repeat("\"", api.MaxPath)))
	}
	value := api.Node{Kind: api.NdList, Kids: []api.Node{{Kind: api.NdNew, Text: "A", Kids: args}}}
	kids = append(kids, api.Node{Kind: api.NdVar, Text: "v", Kids: []api.Node{leaf(api.NdType, "int"), value}})
	tree := api.Node{Kind: api.NdModule, Kids: kids}
	if !syntax.Right(tree) {
		t.Error("a long module is not right")
	}
	args[99999].Text += "\""
	if syntax.Right(tree) {
		t.Error("a literal that is too long is right")
	}
	if _, _, err := token.Scan(written(tree)); err != api.ErrLong {
		t.Error(err)
	}
}
