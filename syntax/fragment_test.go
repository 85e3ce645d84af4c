package syntax_test

import (
	"strings"
	"testing"

	"codesearch/api"
	"codesearch/syntax"
)

func TestMetavariables(t *testing.T) { // P12.2
	for s, want := range map[string]string{
		"$X":                   "meta:X@0-2",
		"($X)":                 "meta:X@0-4",
		"$X.a":                 "member:a@0-4(meta:X@0-2)",
		"$X.a()":               "call@0-6(member:a@0-4(meta:X@0-2))",
		"$X($Y)":               "call@0-6(meta:X@0-2 meta:Y@3-5)",
		"$X()":                 "call@0-4(meta:X@0-2)",
		"-$X":                  "unary:-@0-3(meta:X@1-3)",
		"$X + $X":              "binary:+@0-7(meta:X@0-2 meta:X@5-7)",
		"$_":                   "meta:_@0-2",
		"f($$A)":               "call@0-6(name:f@0-1 many:A@2-5)",
		"f($$A, $$B)":          "call@0-11(name:f@0-1 many:A@2-5 many:B@7-10)",
		"f($$A, 1, $$_, $X)":   "call(name:f many:A int:1 many:_ meta:X)",
		"f(g($$A))":            "call(name:f call(name:g many:A))",
		"new A($$A)":           "new:A@0-10(many:A@6-9)",
		"new a.B(1, $$A, $X)":  "new:a.B(int:1 many:A meta:X)",
		"$f($$f)":              "call(meta:f many:f)",
		"$x // y\n . z":        "member:z@0-12(meta:x@0-2)",
		"a == $X && $Y || !$Z": "binary:||(binary:&&(binary:==(name:a meta:X) meta:Y) unary:!(meta:Z))",
	} {
		reads(t, syntax.FragExpr, s, want)
	}
	for s, want := range map[string]string{
		"$S;":                     "meta:S@0-3",
		" $S // x\n ; ":           "meta:S@1-11",
		"$$S;":                    "many:S@0-4",
		"\t$$S ;":                 "many:S@1-6",
		"$S = 1;":                 "assign@0-7(meta:S@0-2 int:1@5-6)",
		"$S = $T;":                "assign@0-8(meta:S@0-2 meta:T@5-7)",
		"$S();":                   "do@0-5(call@0-4(meta:S@0-2))",
		"$S.a;":                   "do@0-5(member:a@0-4(meta:S@0-2))",
		"$S + 1;":                 "do@0-7(binary:+@0-6(meta:S@0-2 int:1@5-6))",
		"$S || $T;":               "do(binary:||(meta:S meta:T))",
		"($S);":                   "do@0-5(meta:S@0-4)",
		"-$S;":                    "do@0-4(unary:-@0-3(meta:S@1-3))",
		"a = $S;":                 "assign(name:a meta:S)",
		"return $S;":              "return@0-10(meta:S@7-9)",
		"{ $S; }":                 "block@0-7(meta:S@2-5)",
		"{ $$S; $T; $$S; $T(); }": "block(many:S meta:T many:S do(call(meta:T)))",
		"if ($X) { $$S; }":        "if@0-16(meta:X@4-6 block@8-16(many:S@10-14) list@16-16)",
		"if ($X) {} else { $S; }": "if(meta:X block list(block(meta:S)))",
		"while ($X) { $S; }":      "while(meta:X block(meta:S))",
		"var x: $T;":              "var:x@0-10(meta:T@7-9 list@9-9)",
		"var x: $T = $X;":         "var:x@0-15(meta:T@7-9 list@12-14(meta:X@12-14))",
	} {
		reads(t, syntax.FragStmt, s, want)
	}
	for s, want := range map[string]string{
		"class A extends $T {}":                                   "class:A@0-21(list@16-18(meta:T@16-18) list@18-18 list@20-20)",
		"class A implements $T {}":                                "class:A@0-24(list@7-7 list@19-21(meta:T@19-21) list@23-23)",
		"class A implements $$T {}":                               "class:A@0-25(list@7-7 list@19-22(many:T@19-22) list@24-24)",
		"class A implements B, $$T, c.D, $U {}":                   "class:A(list list(type:B many:T type:c.D meta:U) list)",
		"class A { $M; }":                                         "class:A@0-15(list@7-7 list@7-7 list@10-13(meta:M@10-13))",
		"class A { $$M; }":                                        "class:A@0-16(list@7-7 list@7-7 list@10-14(many:M@10-14))",
		"class A { $$M; var x: int; $N; func f() { $$S; } $$O; }": "class:A(list list list(many:M var:x(type:int list) meta:N func:f(list list list(block(many:S))) many:O))",
		"interface I extends $T { $M; $$N; func f(); }":           "interface:I(list(meta:T) list(meta:M many:N func:f(list list list)))",
		"interface I extends $$T {}":                              "interface:I@0-26(list@20-23(many:T@20-23) list@25-25)",
		"interface I extends A, $$T, $U {}":                       "interface:I(list(type:A many:T meta:U) list)",
		"func f($$P) {}":                                          "func:f@0-14(list@7-10(many:P@7-10) list@11-11 list@12-14(block@12-14))",
		"func f(a: $T, $$P, b: int): $R { $S; }":                  "func:f(list(param:a(meta:T) many:P param:b(type:int)) list(meta:R) list(block(meta:S)))",
		"var x: $T = f($$A);":                                     "var:x(meta:T list(call(name:f many:A)))",
	} {
		reads(t, syntax.FragDecl, s, want)
	}
}

func TestNoMetavariables(t *testing.T) { // P12.2: where none can be
	for s, at := range map[string]int{
		"$$X": 0, "($$X)": 1, "-$$X": 1, "a + $$X": 4, "$$X + a": 0, "f(($$X))": 3, "f(-$$X)": 3, "f($$X + 1)": 6, "f($$X.a)": 5, "f($$X())": 5, "f($$X $Y)": 6, "f(1 + $$X)": 6, "$X $Y": 3, "$X a": 3, "a $X": 2, "a.$X": 2, "a.$$X": 2,
		"new $T()": 4, "new $$T()": 4, "new a.$T()": 6, "new $T.a()": 4, "$X;": 2, "$S; $T;": 2, "$X = 1": 3, "$$F()": 0, "f($$X": 5, "f($X": 4,
	} {
		refuses(t, syntax.FragExpr, s, at, api.ErrSyntax)
	}
	for s, at := range map[string]int{
		"$S": 2, "$$S": 3, "$S = 1": 6, "$$S = 1;": 4, "$$S();": 3, "$$S.a;": 3, "$$S + 1;": 4, "$S; $T;": 4, "$$S; a;": 5, "a = $$S;": 4, "return $$S;": 7, "($$S);": 1, "$S $T;": 3, "$S {}": 3, "{ $S }": 5, "{ $$S }": 6, "{ $S; = 1; }": 6,
		"if (a) $B": 7, "if (a) $B;": 7, "if (a) $$B;": 7, "if $C {}": 3, "if ($$C) {}": 4, "if (a) {} else $B;": 15, "while (a) $B;": 10, "while ($$C) {}": 7, "var $X: int;": 4, "var $$X: int;": 4, "var x: $$T;": 7, "var x: $T.a;": 9, "var x: a.$T;": 9, "var x: int = $$X;": 13, "var x $T;": 6,
	} {
		refuses(t, syntax.FragStmt, s, at, api.ErrSyntax)
	}
	for s, at := range map[string]int{
		"$D;": 0, "$$D;": 0, "$D": 0, "class $C {}": 6, "class A $B": 8, "class A extends $$T {}": 16, "class A extends $T, B {}": 18, "class A extends $T.a {}": 18, "class A extends a.$T {}": 18, "class A { $M }": 13, "class A { $$M }": 14, "class A { $M = 1; }": 13, "class A { $M(); }": 12, "class A { f; }": 10, "class A $M;": 8,
		"class A implements $T $U {}": 22, "class A implements $$T.a {}": 22, "interface $I {}": 10, "interface I { $M() }": 16, "interface I { func f() { } }": 23, "interface I { var x: int; }": 14, "interface I { func f(); $$M }": 28, "interface I extends $$T.a {}": 23,
		"func $F() {}": 5, "func f($P) {}": 7, "func f($P: int) {}": 7, "func f($$P: int) {}": 10, "func f(a: $$T) {}": 10, "func f(a, $$P) {}": 8, "func f(): $$R {}": 10, "func f() $B": 9, "func f() $B;": 9, "func f() $$B;": 9, "func f();": 8, "func f($$P": 10, "func f(a: int $$P) {}": 14, "import $M;": 0, "import m;": 0,
	} {
		refuses(t, syntax.FragDecl, s, at, api.ErrSyntax)
	}
}

func TestKindsOfFragments(t *testing.T) { // P12.2: what one kind admits and another one does not
	for s, at := range map[string][3]int{ // the offsets of the errors as an expression, a statement and a declaration; -1 without one
		"a":                       {-1, 1, 0},
		"a;":                      {1, -1, 0},
		"a = b;":                  {2, -1, 0},
		"{}":                      {0, -1, 0},
		"return;":                 {0, -1, 0},
		"if (a) {}":               {0, -1, 0},
		"while (a) {}":            {0, -1, 0},
		"var x: int;":             {0, -1, -1},
		"func f() {}":             {0, 0, -1},
		"class A {}":              {0, 0, -1},
		"interface I{}":           {0, 0, -1},
		"import a;":               {0, 0, 0},
		"func f();":               {0, 0, 8},
		"":                        {0, 0, 0},
		"a b":                     {2, 2, 0},
		"a; b;":                   {1, 3, 0},
		"{} {}":                   {0, 3, 0},
		"a;;":                     {1, 2, 0},
		"{};":                     {0, 2, 0},
		"class A {} ;":            {0, 0, 11},
		"var x: int; var y: int;": {0, 12, 12},
		"func f() {} }":           {0, 0, 12},
		"$X":                      {-1, 2, 0},
		"$X;":                     {2, -1, 0},
		"$$X":                     {0, 3, 0},
		"$$X;":                    {0, -1, 0},
		"if (a) {} else {} else":  {0, 18, 0},
		"if (a) {} b;":            {0, 10, 0},
	} {
		for i, at := range at {
			if at >= 0 {
				refuses(t, i+1, s, at, api.ErrSyntax)
				refuses(t, i+1, "// x\n"+s, at+5, api.ErrSyntax)
				continue
			}
			n, _, _ := syntax.Fragment(i+1, s)
			for _, more := range []string{" " + s, s + " ", "\n\t//\n" + s + "// ;"} {
				if again, at, err := syntax.Fragment(i+1, more); at != 0 || err != api.OK || !syntax.Same(n, again) || again.At != strings.Index(more, s) || again.End != again.At+len(s) {
					t.Errorf("%q as %d: %s, %d, %d", more, i+1, dump(again, true), at, err)
				}
			}
		}
	}
}

// A nest is a source with something repeated in it: so often that it has MaxDepth levels, and with the offset of the error if it is repeated once more.
type nest struct {
	what                               int
	before, open, middle, close, after string
	times, at                          int
}

func (n nest) source(times int) string {
	return n.before + strings.Repeat(n.open, times) + n.middle + strings.Repeat(n.close, times) + n.after
}

var nests = []nest{
	{syntax.FragExpr, "", "-", "a", "", "", 11, 12},
	{syntax.FragExpr, "", "!", "(a)", "", "", 11, 12},
	{syntax.FragExpr, "", "(-", "a", ")", "", 11, 24},
	{syntax.FragExpr, "", "", "a", ".b", "", 11, 0},
	{syntax.FragExpr, "", "(", " a", ".b)", "", 11, 13},
	{syntax.FragExpr, "", "", "a", "()", "", 11, 0},
	{syntax.FragExpr, "", "f(", "a", ")", "", 11, 22},
	{syntax.FragExpr, "", "f(", "$$a", ")", "", 11, 22},
	{syntax.FragExpr, "", "new A(", "", ")", "", 12, 72},
	{syntax.FragExpr, "", "new A(", "a", ")", "", 11, 72},
	{syntax.FragExpr, "", "", "a", "+a", "", 11, 0},
	{syntax.FragExpr, "", "a+(", "a", ")", "", 11, 33},
	{syntax.FragExpr, "-", "a||(", "a", ")", "", 11, 45},
	{syntax.FragStmt, "", "{", "", "}", "", 12, 12},
	{syntax.FragStmt, "", "{", "return;", "}", "", 11, 12},
	{syntax.FragStmt, "", "if(a){", "", "}", "", 6, 36},
	{syntax.FragStmt, "", "if(a){}else{", "", "}", "", 4, 48},
	{syntax.FragStmt, "", "while(a){", "", "}", "", 6, 54},
	{syntax.FragStmt, "if(", "-", "a", "", "){}", 10, 14},
	{syntax.FragStmt, "while(", "-", "a", "", "){}", 10, 17},
	{syntax.FragStmt, "return ", "-", "a", "", ";", 10, 18},
	{syntax.FragStmt, "a=", "-", "a", "", ";", 10, 13},
	{syntax.FragStmt, "", "-", "a", "", "=a;", 10, 11},
	{syntax.FragStmt, "", "-", "a", "", ";", 10, 11},
	{syntax.FragStmt, "", "{", "$a;", "}", "", 11, 12},
	{syntax.FragDecl, "var x:int=", "-", "a", "", ";", 9, 20},
	{syntax.FragDecl, "func f(){", "{", "", "}", "}", 9, 18},
	{syntax.FragDecl, "class A{func f(){", "{", "", "}", "}}", 7, 24},
	{module, "func f(){", "{", "", "}", "}", 8, 17},
	{module, "class A{func f(){", "{", "", "}", "}}", 6, 23},
	{module, "import m;var x:int=", "-", "a", "", ";", 8, 28},
	{module, "class A{var x:int=", "-", "a", "", ";}", 6, 25},
}

func TestLevels(t *testing.T) { // P12.1, P12.2
	for _, n := range nests {
		s := n.source(n.times)
		tree, at, err := parse(n.what, s)
		if err != api.OK || at != 0 || syntax.Depth(tree) != api.MaxDepth || n.what == module && !syntax.Right(tree) {
			t.Errorf("%q as %d: %d levels, %d, %d", s, n.what, syntax.Depth(tree), at, err)
		}
		refuses(t, n.what, n.source(n.times+1), n.at, api.ErrLong)
		refuses(t, n.what, "// x\n"+n.source(n.times+1), n.at+5, api.ErrLong)
		for _, wrong := range []string{" )", " ; ;", " &&", " &"} {
			s := n.source(n.times + 1)
			if _, at, err := parse(n.what, s+wrong); err != api.ErrSyntax || at <= len(s) {
				t.Errorf("%q as %d: %d, %d", s+wrong, n.what, at, err)
			}
		}
	}
	for what, s := range map[int]string{1: "(-@)", 2: "-@;", 3: "var x: int = -@;"} {
		deep := strings.Repeat("-", 250) + "a" + strings.Repeat(" && a", 100)
		refuses(t, what, strings.Replace(s, "@", deep+" &&", 1), strings.Index(s, "@")+len(deep)+3, api.ErrSyntax)
	}
	reads(t, syntax.FragExpr, strings.Repeat("(", 299)+"a"+strings.Repeat(")", 299), "name:a@0-599")
	refuses(t, syntax.FragExpr, strings.Repeat("(", 600), 600, api.ErrSyntax)
	refuses(t, syntax.FragExpr, strings.Repeat("-", 599)+"a", 12, api.ErrLong)
	refuses(t, syntax.FragExpr, "a"+strings.Repeat("+a", 299), 0, api.ErrLong)
	refuses(t, syntax.FragExpr, "f("+strings.Repeat("-", 11)+"a,"+strings.Repeat("-", 12)+"b)", 13, api.ErrLong)
	refuses(t, syntax.FragExpr, "f("+strings.Repeat("-", 10)+"a,"+strings.Repeat("-", 12)+"b)", 25, api.ErrLong)
	refuses(t, syntax.FragStmt, strings.Repeat("{", 300)+strings.Repeat("}", 300), 12, api.ErrLong)
}
