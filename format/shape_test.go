package format_test

import (
	"slices"
	"strings"
	"testing"

	"codesearch/api"
	"codesearch/format"
	"codesearch/syntax"
)

// cloned returns a tree that shares no memory with another one.
func cloned(n api.Node) api.Node {
	n.Kids = slices.Clone(n.Kids)
	for i := range n.Kids {
		n.Kids[i] = cloned(n.Kids[i])
	}
	return n
}

// written writes a tree as a source, with parentheses around every expression except a metavariable. If the tree is no fragment, what it writes is none, or a fragment with another tree.
func written(n api.Node) string {
	switch n.Kind {
	case api.NdModule:
		return joined(n.Kids, " ")
	case api.NdBlock:
		return "{" + lines(n) + "}"
	case api.NdImport:
		return "import " + n.Text + ";" + joined(n.Kids, " ")
	case api.NdClass:
		if len(n.Kids) == 3 {
			return "class " + n.Text + before(" extends ", n.Kids[0]) + before(" implements ", n.Kids[1]) + "{" + lines(n.Kids[2]) + "}"
		}
	case api.NdInterface:
		if len(n.Kids) == 2 {
			return "interface " + n.Text + before(" extends ", n.Kids[0]) + "{" + lines(n.Kids[1]) + "}"
		}
	case api.NdFunc:
		if len(n.Kids) == 3 {
			end := joined(n.Kids[2].Kids, " ")
			if end == "" {
				end = ";"
			}
			return "func " + n.Text + "(" + joined(n.Kids[0].Kids, ",") + ")" + before(":", n.Kids[1]) + end
		}
	case api.NdVar:
		if len(n.Kids) == 2 {
			return "var " + n.Text + ":" + written(n.Kids[0]) + before("=", n.Kids[1]) + ";"
		}
	case api.NdParam:
		return n.Text + ":" + joined(n.Kids, " ")
	case api.NdType:
		return n.Text + joined(n.Kids, " ")
	case api.NdReturn:
		return "return " + joined(n.Kids, " ") + ";"
	case api.NdIf:
		if len(n.Kids) == 3 {
			return "if(" + written(n.Kids[0]) + ")" + written(n.Kids[1]) + before("else", n.Kids[2])
		}
	case api.NdWhile:
		if len(n.Kids) == 2 {
			return "while(" + written(n.Kids[0]) + ")" + written(n.Kids[1])
		}
	case api.NdAssign:
		return joined(n.Kids, "=") + ";"
	case api.NdDo:
		return joined(n.Kids, " ") + ";"
	case api.NdMeta:
		return "$" + n.Text + joined(n.Kids, " ")
	case api.NdMany:
		return "$$" + n.Text + joined(n.Kids, " ")
	}
	return "(" + inParentheses(n) + ")"
}

func inParentheses(n api.Node) string {
	switch n.Kind {
	case api.NdName, api.NdInt, api.NdConst:
		return n.Text + joined(n.Kids, " ")
	case api.NdText:
		return `"` + strings.NewReplacer("\\", "\\\\", "\"", "\\\"", "\n", "\\n").Replace(n.Text) + `"` + joined(n.Kids, " ")
	case api.NdMember:
		return joined(n.Kids, " ") + "." + n.Text
	case api.NdCall:
		if len(n.Kids) > 0 {
			return written(n.Kids[0]) + "(" + joined(n.Kids[1:], ",") + ")"
		}
	case api.NdNew:
		return "new " + n.Text + "(" + joined(n.Kids, ",") + ")"
	case api.NdUnary:
		return n.Text + " " + joined(n.Kids, " ")
	case api.NdBinary:
		return joined(n.Kids, " "+n.Text+" ")
	}
	return "#"
}

func joined(l []api.Node, separator string) string {
	var parts []string
	for _, n := range l {
		parts = append(parts, written(n))
	}
	return strings.Join(parts, separator)
}

// lines writes statements or members, where a metavariable has a semicolon.
func lines(n api.Node) string {
	var s string
	for _, kid := range n.Kids {
		s += written(kid)
		if kid.Kind == api.NdMeta || kid.Kind == api.NdMany {
			s += ";"
		}
	}
	return s
}

// before writes the kids of a list behind a keyword or a mark, nothing if there are none.
func before(word string, list api.Node) string {
	if len(list.Kids) == 0 {
		return ""
	}
	return word + joined(list.Kids, ",")
}

// fragmentOf returns a kind of fragments, and a source of this kind with the tree n; false if there is none. It is not asked about more than MaxTokens tokens.
func fragmentOf(n api.Node) (int, string, bool) {
	s := written(n)
	if n.Kind == api.NdMany {
		s += ";"
	}
	for what := syntax.FragExpr; what <= syntax.FragDecl; what++ {
		if again, _, err := syntax.Fragment(what, s); err == api.OK && dump(again, false) == dump(n, false) {
			return what, s, true
		}
	}
	return 0, "", false
}

// judged compares Fragment with the definition: its error, and that what it returns is read again as the same tree. It returns whether there is no error.
func judged(t *testing.T, n api.Node) bool {
	t.Helper()
	what, _, right := fragmentOf(n)
	got, err := format.Fragment(n)
	if !right {
		if got != "" || err != api.ErrArg {
			t.Errorf("%s: %q, %d", dump(n, false), got, err)
		}
		return false
	}
	if again, _, err2 := syntax.Fragment(what, got); err != api.OK || err2 != api.OK || !syntax.Same(again, n) {
		t.Errorf("%s as %d: %q, %d, %d", dump(n, false), what, got, err, err2)
	}
	return true
}

// texts are Texts that are right for some kinds and wrong for other ones.
var texts = append(append([]string{}, "", "a", "_", "_9", "Z", "int", strings.Repeat("n", api.MaxName), strings.Repeat("n", api.MaxName+1), "a.b", "a.b.c", "a.", ".b", ".", "a..b", "a. b", "a .b", " a", "a ", "a b", "a;", "1a", "a-b", "a\n", "\x00", "é", "$a", "$$a",
	strings.Repeat("n", api.MaxName)+"."+strings.Repeat("n", api.MaxName), strings.Repeat("n", api.MaxName+1)+".a", "a."+strings.Repeat("n", api.MaxName+1), "a.if", "new.b", "a.1", "1.a", "if.", "0", "1", "9", "00", "01", "007", "123456789", "1234567890", "000000000", "-1", "+1", "1.0", "0x1", " 1", `"`, `\`, `"a"`, "\t", "\r", "\x1f", "\x7f", "\x80", "a\"\\\n~ ",
	strings.Repeat("s", api.MaxPath), strings.Repeat("s", api.MaxPath+1), strings.Repeat("\n", api.MaxPath), strings.Repeat("\"", api.MaxPath+1)),
	strings.Fields("import class interface extends implements func var return if else while new true false null this True trues { } ( ) ; , : . = == != < > + - * / % ! && || & | === <= >= ++ !!")...)

// places calls f with each node of a tree, which f can change.
func places(n *api.Node, f func(n *api.Node)) {
	f(n)
	for i := range n.Kids {
		places(&n.Kids[i], f)
	}
}

// rich are fragments that have, together, every kind of node in every place, and each list with one kid at least and without kids.
var rich = map[int][]string{
	syntax.FragExpr: {"a", "$X", "f(a, $$A, $X)", "new a.B(new C(), 1, $$A, \"s\")", "-a + !$X.b(true) * (c || d)"},
	syntax.FragStmt: {"$$S;", "{ var x: int = 1; var y: $T; {} return null; return; $S; $$S; }", "if ($X) { a; } else { a.b = -1; if (b) {} $$S; }", "while (!a) { while ($X) {} $S; f($$A); }", "return $X;", "return;", "$X = new A(b);", "$f($X);", "var x: $T;"},
	syntax.FragDecl: {
		"class A extends B implements C, $$I, $J { var n: int; $M; $$N; func f() {} func g(a: int, $$P, b: $T): $R { return; } }",
		"class A extends $T implements c.D { var n: $T = $X; }", "class B {}",
		"interface I extends J, $$I, $K { func f(); $M; func g(a: $T, $$P): $R; $$N; }", "interface J {}",
		"func f(a: c.D) { var x: int = \"s\"; $S; }", "func f($$P): int {}", "var v: a.B;", "var v: $T = f($$A);",
	},
}

func TestShapeOneChange(t *testing.T) { // P13.2: one Kind, one Text or one number of Kids changed
	var trees []api.Node
	for what, l := range rich {
		for _, s := range l {
			n, at, err := syntax.Fragment(what, s)
			if err != api.OK || !judged(t, n) {
				t.Fatal(s, at, err)
			}
			trees = append(trees, n)
		}
	}
	leaf := func(kind int, text string) api.Node { return api.Node{Kind: kind, Text: text} }
	others := []api.Node{leaf(api.NdImport, "a"), leaf(api.NdType, "a"), leaf(api.NdBlock, ""), leaf(api.NdReturn, ""), leaf(api.NdName, "a"), leaf(api.NdInt, "1"), leaf(api.NdList, ""), leaf(api.NdMeta, "a"), leaf(api.NdMany, "a"), {}, leaf(api.NdModule, "")}
	few := len(others)
	for i := range trees {
		places(&trees[i], func(n *api.Node) { others = append(others, cloned(*n)) })
	}
	rights, wrongs := 0, 0
	for i := range trees {
		tree := &trees[i]
		count := func() {
			if judged(t, *tree) {
				rights++
			} else {
				wrongs++
			}
		}
		places(tree, func(n *api.Node) {
			whole := *n
			for kind := -2; kind <= 28; kind++ {
				n.Kind = kind
				count()
			}
			*n = whole
			for _, text := range texts {
				n.Text = text
				count()
			}
			*n = whole
			for i := range n.Kids {
				n.Kids = slices.Delete(slices.Clone(whole.Kids), i, i+1)
				count()
				n.Kids = append([]api.Node{whole.Kids[i]}, whole.Kids...)
				count()
			}
			for _, other := range others[:few] {
				n.Kids = append(slices.Clone(whole.Kids), other)
				count()
				n.Kids = append([]api.Node{other}, whole.Kids...)
				count()
			}
			n.Kids = nil
			count()
			*n = whole
		})
		places(tree, func(n *api.Node) {
			whole := *n
			for _, other := range others {
				*n = other
				count()
				*n = whole
			}
		})
	}
	if rights < 3000 || wrongs < 10000 {
		t.Errorf("%d right ones, %d others", rights, wrongs)
	}
}

func TestShapeTexts(t *testing.T) { // P13.2: every byte in every kind of Text
	for _, kind := range []int{api.NdName, api.NdInt, api.NdText, api.NdConst, api.NdNew, api.NdMeta, api.NdMany} {
		for c := range 256 {
			for _, text := range []string{string([]byte{byte(c)}), "a" + string([]byte{byte(c)}), "1" + string([]byte{byte(c)}), string([]byte{byte(c)}) + "a", "a" + string([]byte{byte(c)}) + "b"} {
				judged(t, api.Node{Kind: kind, Text: text})
				if kind == api.NdName {
					list := api.Node{Kind: api.NdList}
					judged(t, api.Node{Kind: api.NdVar, Text: text, Kids: []api.Node{{Kind: api.NdType, Text: "int"}, list}})
					judged(t, api.Node{Kind: api.NdVar, Text: "v", Kids: []api.Node{{Kind: api.NdType, Text: text}, list}})
					judged(t, api.Node{Kind: api.NdMember, Text: text, Kids: []api.Node{{Kind: api.NdMeta, Text: "X"}}})
				}
			}
		}
	}
}
