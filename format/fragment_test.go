package format_test

import (
	"strings"
	"testing"

	"codesearch/api"
	"codesearch/format"
	"codesearch/syntax"
)

func TestMetavariables(t *testing.T) { // P13.2, P13.5
	for s, want := range map[string]string{
		"$X":                                   "$X",
		"($X)":                                 "$X",
		"$_":                                   "$_",
		"$ifs":                                 "$ifs",
		"$X.a":                                 "$X.a",
		"($X).a.b":                             "$X.a.b",
		"$X()":                                 "$X()",
		"$X($Y,$Z)":                            "$X($Y, $Z)",
		"-$X":                                  "-$X",
		"!(-($X))":                             "!-$X",
		"$X+$X*$Y":                             "$X + $X * $Y",
		"($X+$X)*$Y":                           "($X + $X) * $Y",
		"$X||($Y||$Z)":                         "$X || ($Y || $Z)",
		"f($$A)":                               "f($$A)",
		"f($$A,$$B)":                           "f($$A, $$B)",
		"f(1,$$A,$X,$$_,-$Y)":                  "f(1, $$A, $X, $$_, -$Y)",
		"$f($$f)($$f)":                         "$f($$f)($$f)",
		"new A($$A)":                           "new A($$A)",
		"new a.B($$A,$X,(1+2))":                "new a.B($$A, $X, 1 + 2)",
		"f(g($$A),new B($$B).c)":               "f(g($$A), new B($$B).c)",
		"(new A($X)).b($$B)==$Y":               "new A($X).b($$B) == $Y",
		"($X==$Y).a($$A)":                      "($X == $Y).a($$A)",
		"$" + strings.Repeat("n", api.MaxName): "$" + strings.Repeat("n", api.MaxName),
	} {
		becomes(t, syntax.FragExpr, s, want)
	}
	for s, want := range map[string]string{
		"$S;":                              "$S",
		"$$S;":                             "$$S;",
		" $$_ // x\n ;":                    "$$_;",
		"$S=1;":                            "$S = 1;",
		"($S)=$T;":                         "$S = $T;",
		"$S();":                            "$S();",
		"$S.a;":                            "$S.a;",
		"$S+1;":                            "$S + 1;",
		"-$S;":                             "-$S;",
		"(-$S).a;":                         "(-$S).a;",
		"a=$S;":                            "a = $S;",
		"return$S;":                        "return $S;",
		"{$S;}":                            "{\n  $S;\n}",
		"{$$S;}":                           "{\n  $$S;\n}",
		"{{$S;}$$S;$T;$$_;$T();}":          "{\n  {\n    $S;\n  }\n  $$S;\n  $T;\n  $$_;\n  $T();\n}",
		"if($C){$$S;}":                     "if ($C) {\n  $$S;\n}",
		"if($C){$$S;}else{$T;}":            "if ($C) {\n  $$S;\n} else {\n  $T;\n}",
		"if($C.a){}else{$$T;$U;}":          "if ($C.a) {\n} else {\n  $$T;\n  $U;\n}",
		"while($C){$$S;$T;}":               "while ($C) {\n  $$S;\n  $T;\n}",
		"while($C&&($D)){while($E){$$S;}}": "while ($C && $D) {\n  while ($E) {\n    $$S;\n  }\n}",
		"var x:$T;":                        "var x: $T;",
		"var x:$T=$X;":                     "var x: $T = $X;",
		"var x:a.B=f($$A);":                "var x: a.B = f($$A);",
	} {
		becomes(t, syntax.FragStmt, s, want)
	}
	for s, want := range map[string]string{
		"class A extends $T{}":                             "class A extends $T {\n}",
		"class A implements $T{}":                          "class A implements $T {\n}",
		"class A implements $$T{}":                         "class A implements $$T {\n}",
		"class A extends $_ implements B,$$T,c.D,$U,$$_{}": "class A extends $_ implements B, $$T, c.D, $U, $$_ {\n}",
		"class A{$M;}":                                     "class A {\n  $M;\n}",
		"class A{$$M;}":                                    "class A {\n  $$M;\n}",
		"class A{$$M;var x:$T;$N;func f(){$$S;}$$O;}":      "class A {\n  $$M;\n  var x: $T;\n  $N;\n  func f() {\n    $$S;\n  }\n  $$O;\n}",
		"interface I extends $T{}":                         "interface I extends $T {\n}",
		"interface I extends $$T{}":                        "interface I extends $$T {\n}",
		"interface I extends A,$$T,$U{}":                   "interface I extends A, $$T, $U {\n}",
		"interface I{$M;$$N;func f();$M;}":                 "interface I {\n  $M;\n  $$N;\n  func f();\n  $M;\n}",
		"interface I{func f($$P):$R;}":                     "interface I {\n  func f($$P): $R;\n}",
		"func f($$P){}":                                    "func f($$P) {\n}",
		"func f():$R{}":                                    "func f(): $R {\n}",
		"func f(a:$T){}":                                   "func f(a: $T) {\n}",
		"func f(a:$T,$$P,b:int,$$_):$R{$S;$$S;}":           "func f(a: $T, $$P, b: int, $$_): $R {\n  $S;\n  $$S;\n}",
		"var x:$T;":                                        "var x: $T;",
		"var x:$T=f($$A);":                                 "var x: $T = f($$A);",
	} {
		becomes(t, syntax.FragDecl, s, want)
	}
}

func TestNoFragments(t *testing.T) { // P13.2
	refused(t, api.Node{})
	for kind := -1; kind <= 28; kind++ {
		for _, text := range []string{"", "a", "A.b", "1", "if", "true", "-", "&&"} {
			n := api.Node{Kind: kind, Text: text}
			judged(t, n)
			for _, inside := range []string{"f(a)", "-a", "a - a", "new A(a)", "a.b"} {
				tree, _, _ := syntax.Fragment(syntax.FragExpr, inside)
				tree.Kids[len(tree.Kids)-1] = n
				judged(t, tree)
				tree.Kids[0] = n
				judged(t, tree)
				judged(t, api.Node{Kind: kind, Text: text, Kids: tree.Kids})
			}
		}
	}
	for _, s := range []string{"import a;", "", "import a; var x: int;", "class A {}"} {
		n, _, err := syntax.Module(s)
		if err != api.OK {
			t.Fatal(s)
		}
		refused(t, n)
		if len(n.Kids) > 1 {
			refused(t, n.Kids[0])
		}
	}
	// What would be read as a NdMeta, which is another statement.
	metavariable := api.Node{Kind: api.NdMeta, Text: "S"}
	do := api.Node{Kind: api.NdDo, Kids: []api.Node{metavariable}}
	refused(t, do)
	refused(t, api.Node{Kind: api.NdBlock, Kids: []api.Node{do}})
	if n, _, err := syntax.Fragment(syntax.FragStmt, "($S);"); err != api.OK || !syntax.Same(n, do) {
		t.Error(err)
	} else {
		refused(t, n)
	}
	refused(t, api.Node{Kind: api.NdDo, Kids: []api.Node{{Kind: api.NdMany, Text: "S"}}})
	// Texts that are no names, but could be read as something else at their place.
	for _, text := range []string{"a,b", "a(", "a)", "a)(b", "a.b", "a ", " a", "a//", "a\n", "(a)", "f(a)", "a, g(b", "a;b", "a b", "$a", "-a", "a.", "1, 1", "\"a\"", "a:b", "a()", "A(), new B"} {
		for _, kind := range []int{api.NdName, api.NdInt, api.NdConst, api.NdMeta, api.NdMany, api.NdNew, api.NdType} {
			n := api.Node{Kind: kind, Text: text}
			call := api.Node{Kind: api.NdCall, Kids: []api.Node{{Kind: api.NdName, Text: "f"}, n, n}}
			if kind != api.NdNew || text != "a.b" {
				refused(t, n)
				refused(t, call)
			}
			judged(t, call)
			judged(t, api.Node{Kind: api.NdVar, Text: "x", Kids: []api.Node{n, {Kind: api.NdList}}})
			judged(t, api.Node{Kind: api.NdVar, Text: text, Kids: []api.Node{{Kind: api.NdType, Text: "int"}, {Kind: api.NdList, Kids: []api.Node{n}}}})
		}
		refused(t, api.Node{Kind: api.NdMember, Text: text, Kids: []api.Node{{Kind: api.NdName, Text: "a"}}})
	}
}

func TestKidsOfLeaves(t *testing.T) { // P13.2
	a := api.Node{Kind: api.NdName, Text: "a"}
	for kind, text := range map[int]string{api.NdName: "a", api.NdInt: "1", api.NdText: "s", api.NdConst: "this", api.NdMeta: "X"} {
		if got, err := format.Fragment(api.Node{Kind: kind, Text: text}); got == "" || err != api.OK {
			t.Errorf("kind %d: %q, %d", kind, got, err)
		}
		refused(t, api.Node{Kind: kind, Text: text, Kids: []api.Node{a}})
		refused(t, api.Node{Kind: kind, Text: text, Kids: []api.Node{{}}})
	}
	refused(t, api.Node{Kind: api.NdMany, Text: "X", Kids: []api.Node{a}})
	list := api.Node{Kind: api.NdList}
	refused(t, api.Node{Kind: api.NdVar, Text: "x", Kids: []api.Node{{Kind: api.NdType, Text: "A", Kids: []api.Node{a}}, list}})
	refused(t, api.Node{Kind: api.NdVar, Text: "x", Kids: []api.Node{{Kind: api.NdMeta, Text: "A", Kids: []api.Node{a}}, list}})
	// A type whose kids are the arguments that its Text seems to have.
	refused(t, api.Node{Kind: api.NdVar, Text: "x", Kids: []api.Node{{Kind: api.NdType, Text: "A(a)", Kids: []api.Node{a}}, list}})
}

// nests are fragments with something repeated in them, so often that they have MaxDepth levels.
var nests = []struct {
	what                               int
	before, open, middle, close, after string
	times                              int
}{
	{syntax.FragExpr, "", "-", "a", "", "", 11},
	{syntax.FragExpr, "", "!", "$X", "", "", 11},
	{syntax.FragExpr, "", "", "a", ".b", "", 11},
	{syntax.FragExpr, "", "", "a", "()", "", 11},
	{syntax.FragExpr, "", "f(", "$$a", ")", "", 11},
	{syntax.FragExpr, "", "new A(", "", ")", "", 12},
	{syntax.FragExpr, "", "", "a", " + a", "", 11},
	{syntax.FragExpr, "", "a - (", "a - a", ")", "", 10},
	{syntax.FragStmt, "return ", "-", "a", "", ";", 10},
	{syntax.FragStmt, "a = ", "-", "a", "", ";", 10},
	{syntax.FragStmt, "", "-", "a", "", " = a;", 10},
	{syntax.FragStmt, "", "-", "a", "", ";", 10},
	{syntax.FragDecl, "var x: int = ", "-", "a", "", ";", 9},
}

func TestLevels(t *testing.T) { // P13.2: MaxDepth levels, and one more
	for _, n := range nests {
		source := func(times int) string {
			return n.before + strings.Repeat(n.open, times) + n.middle + strings.Repeat(n.close, times) + n.after
		}
		for times := 1; times <= n.times; times++ {
			becomes(t, n.what, source(times), source(times))
		}
		tree, _, _ := syntax.Fragment(n.what, source(n.times))
		if syntax.Depth(tree) != api.MaxDepth {
			t.Errorf("%q: %d levels", source(n.times), syntax.Depth(tree))
		}
		refused(t, deepened(tree))
	}
	block := api.Node{Kind: api.NdBlock}
	for levels := 1; levels < 30; levels++ {
		got, err := format.Fragment(block)
		if levels > api.MaxDepth {
			refused(t, block)
		} else if err != api.OK || strings.Count(got, "\n") != 2*levels-1 {
			t.Errorf("%d levels: %q, %d", levels, got, err)
		}
		block = api.Node{Kind: api.NdBlock, Kids: []api.Node{block}}
	}
	deep := api.Node{Kind: api.NdName, Text: "a"}
	for range 1 << 16 {
		deep = api.Node{Kind: api.NdUnary, Text: "-", Kids: []api.Node{deep}}
	}
	refused(t, deep)
	circle := make([]api.Node, 1)
	circle[0] = api.Node{Kind: api.NdUnary, Text: "-", Kids: circle}
	refused(t, circle[0])
}

// deepened returns a tree with a unary before each of the expressions on its lowest level.
func deepened(n api.Node) api.Node {
	depth := syntax.Depth(n)
	kids := make([]api.Node, len(n.Kids))
	for i, kid := range n.Kids {
		if kids[i] = kid; syntax.Depth(kid) == depth-1 {
			kids[i] = deepened(kid)
		}
	}
	if n.Kids = kids; depth > 1 || n.Kind == api.NdMany {
		return n
	}
	return api.Node{Kind: api.NdUnary, Text: "-", Kids: []api.Node{n}}
}

func TestLongFragments(t *testing.T) { // P13.2, P13.5: there is no limit on the length; MaxTokens tokens are read again
	texts := map[int]string{}
	for _, kids := range []int{0, 1, 2, 78, 79, 80, 81, 82, 159, 160, 161, 298, 299, 300, 301, 600, 5000} {
		for kind, text := range map[int]string{api.NdName: "a", api.NdInt: "1", api.NdText: "s", api.NdConst: "null", api.NdMeta: "X", api.NdMany: "X", api.NdNew: "A"} {
			call := api.Node{Kind: api.NdCall, Kids: []api.Node{{Kind: api.NdName, Text: "f"}}}
			each := map[int]string{api.NdText: `"s"`, api.NdMeta: "$X", api.NdMany: "$$X", api.NdNew: "new A()"}[kind]
			if each == "" {
				each = text
			}
			for range kids {
				call.Kids = append(call.Kids, api.Node{Kind: kind, Text: text})
			}
			got, err := format.Fragment(call)
			texts[kids] = "f(" + strings.TrimSuffix(strings.Repeat(each+", ", kids), ", ") + ")"
			if got != texts[kids] || err != api.OK {
				t.Errorf("%d arguments of kind %d: %d bytes, %d", kids, kind, len(got), err)
			}
			tokens := 3 + 2*kids - min(1, kids)
			if kind == api.NdNew {
				tokens += 3 * kids
			}
			again, _, err := syntax.Fragment(syntax.FragExpr, got)
			if tokens > api.MaxTokens && err != api.ErrLong || tokens <= api.MaxTokens && (err != api.OK || !syntax.Same(again, call)) {
				t.Errorf("%d tokens: %d", tokens, err)
			}
			for _, i := range []int{1, 79, 80, 81, 160, kids} {
				if i >= 1 && i <= kids {
					call.Kids[i].Text = map[int]string{api.NdText: "\t", api.NdInt: "01"}[kind]
					refused(t, call)
					call.Kids[i].Text = text
				}
			}
		}
	}
	for kids := 298; kids <= 301; kids++ { // an odd number of tokens
		call := node(api.NdCall, "", node(api.NdName, "f"))
		for range kids {
			call.Kids = append(call.Kids, node(api.NdName, "a"))
		}
		tree := node(api.NdUnary, "-", call)
		got, err := format.Fragment(tree)
		if got != "-f("+strings.TrimSuffix(strings.Repeat("a, ", kids), ", ")+")" || err != api.OK {
			t.Errorf("%d arguments: %d bytes, %d", kids, len(got), err)
		}
		if again, _, err := syntax.Fragment(syntax.FragExpr, got); syntax.Same(again, tree) != (3+2*kids <= api.MaxTokens) || (err == api.ErrLong) != (3+2*kids > api.MaxTokens) {
			t.Errorf("%d arguments: %d", kids, err)
		}
	}
	for _, last := range []string{"", "a", "b()", "a = b", "return"} {
		block := api.Node{Kind: api.NdBlock}
		lines := []string{"{"}
		for range 290 {
			block.Kids = append(block.Kids, api.Node{Kind: api.NdDo, Kids: []api.Node{{Kind: api.NdInt, Text: "7"}}})
			lines = append(lines, "  7;")
		}
		if last != "" {
			n, _, _ := syntax.Fragment(syntax.FragStmt, last+";")
			block.Kids = append(block.Kids, n)
			lines = append(lines, "  "+last+";")
		}
		if got, err := format.Fragment(block); got != strings.Join(append(lines, "}"), "\n") || err != api.OK {
			t.Errorf("%d bytes, %d", len(got), err)
		}
	}
	names := api.Node{Kind: api.NdList}
	for range 100000 {
		names.Kids = append(names.Kids, api.Node{Kind: api.NdType, Text: strings.Repeat("n", api.MaxName) + "." + strings.Repeat("m", api.MaxName)})
	}
	class := api.Node{Kind: api.NdClass, Text: "A", Kids: []api.Node{{Kind: api.NdList}, names, {Kind: api.NdList}}}
	if got, err := format.Fragment(class); len(got) != len("class A implements  {\n}")+100000*(2*api.MaxName+1)+2*99999 || err != api.OK {
		t.Errorf("%d bytes, %d", len(got), err)
	}
	names.Kids[99999].Text += "m"
	refused(t, class)
}
