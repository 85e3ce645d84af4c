package syntax_test

import (
	"strconv"
	"strings"
	"testing"

	"codesearch/api"
	"codesearch/syntax"
)

var kindNames = strings.Fields("none module import class interface func var param type block return if while assign do name int text const member call new unary binary list meta many")

// dump writes a tree: each node as its kind, its Text if there is one, its position if these are wanted, and its kids in parentheses.
func dump(n api.Node, positions bool) string {
	s := strconv.Itoa(n.Kind)
	if n.Kind >= 0 && n.Kind < len(kindNames) {
		s = kindNames[n.Kind]
	}
	if n.Text != "" {
		s += ":" + n.Text
	}
	if positions {
		s += "@" + strconv.Itoa(n.At) + "-" + strconv.Itoa(n.End)
	}
	if len(n.Kids) == 0 {
		return s
	}
	var kids []string
	for _, kid := range n.Kids {
		kids = append(kids, dump(kid, positions))
	}
	return s + "(" + strings.Join(kids, " ") + ")"
}

// What a source can be read as: as a module, or as a fragment.
const module = -1

// parse calls Module or Fragment.
func parse(what int, s string) (api.Node, int, api.Errno) {
	if what == module {
		return syntax.Module(s)
	}
	return syntax.Fragment(what, s)
}

// reads wants a tree of a source, as dump writes it, with positions if there is an @.
func reads(t *testing.T, what int, s, want string) {
	t.Helper()
	n, at, err := parse(what, s)
	if got := dump(n, strings.Contains(want, "@")); got != want || at != 0 || err != api.OK {
		t.Errorf("%q as %d: %s, %d, %d\nwanted: %s", s, what, got, at, err, want)
	}
}

// refuses wants an error of a source.
func refuses(t *testing.T, what int, s string, at int, err api.Errno) {
	t.Helper()
	n, gotAt, got := parse(what, s)
	if got != err || gotAt != at || !zero(n) {
		t.Errorf("%.300q as %d: %s, %d, %d; wanted %d, %d", s, what, dump(n, true), gotAt, got, at, err)
	}
}

func zero(n api.Node) bool {
	return n.Kind == 0 && n.Text == "" && n.At == 0 && n.End == 0 && len(n.Kids) == 0
}

func TestExamples(t *testing.T) { // the chapter's examples
	n, _, _ := syntax.Module("class A { var n: int; }")
	if got := dump(n, true); got != "module@0-23(class:A@0-23(list@7-7 list@7-7 list@10-21(var:n@10-21(type:int@17-20 list@20-20))))" {
		t.Error(got)
	}
	if syntax.Size(n) != 8 || syntax.Depth(n) != 5 {
		t.Error(syntax.Size(n), syntax.Depth(n))
	}
	if l := syntax.Around(n, 18); len(l) != 5 || l[4].Kind != api.NdType {
		t.Error(l)
	}
	refuses(t, module, "var x int;", 6, api.ErrSyntax)
	refuses(t, module, "var x: int", 10, api.ErrSyntax)
	reads(t, module, "", "module@0-0")
	reads(t, syntax.FragExpr, "f($X, $$R)", "call@0-10(name:f@0-1 meta:X@2-4 many:R@6-9)")
	reads(t, syntax.FragStmt, "$S;", "meta:S@0-3")
	refuses(t, syntax.FragExpr, "new $T()", 4, api.ErrSyntax)
	refuses(t, 0, "", 0, api.ErrArg)
}

func TestNothing(t *testing.T) { // P12.1
	for _, s := range []string{"", " ", "\t", "\n", " \n\t ", "//", "// x", "// x\n", " // x\n\t//y\n ", "//\x00\xff"} {
		reads(t, module, s, "module@0-"+strconv.Itoa(len(s)))
		for what := 1; what <= 3; what++ {
			refuses(t, what, s, len(s), api.ErrSyntax)
		}
	}
}

func TestModules(t *testing.T) { // P12.1
	for s, want := range map[string]string{
		"import a;":              "module@0-9(import:a@0-9)",
		" import // x\n a ; ":    "module@0-18(import:a@1-17)",
		"import a;import b;":     "module@0-18(import:a@0-9 import:b@9-18)",
		"import a; var x: b.C ;": "module@0-22(import:a@0-9 var:x@10-22(type:b.C@17-20 list@20-20))",
		"class A{}":              "module@0-9(class:A@0-9(list@7-7 list@7-7 list@8-8))",
		"class A  extends B  implements C , d . E  {  }":              "module@0-46(class:A@0-46(list@17-18(type:B@17-18) list@31-40(type:C@31-32 type:d.E@35-40) list@43-43))",
		"class A extends b . C {}":                                    "module@0-24(class:A@0-24(list@16-21(type:b.C@16-21) list@21-21 list@23-23))",
		"class A implements B {}":                                     "module@0-23(class:A@0-23(list@7-7 list@19-20(type:B@19-20) list@22-22))",
		"class A { func f() {} var x: int; }":                         "module@0-35(class:A@0-35(list@7-7 list@7-7 list@10-33(func:f@10-21(list@17-17 list@18-18 list@19-21(block@19-21)) var:x@22-33(type:int@29-32 list@32-32))))",
		"interface I { }":                                             "module@0-15(interface:I@0-15(list@11-11 list@13-13))",
		"interface I extends J { func f ( ) ; }":                      "module@0-38(interface:I@0-38(list@20-21(type:J@20-21) list@24-36(func:f@24-36(list@32-32 list@34-34 list@34-34))))",
		"interface I extends J,K.L{func f():int ;}":                   "module@0-41(interface:I@0-41(list@20-25(type:J@20-21 type:K.L@22-25) list@26-40(func:f@26-40(list@33-33 list@35-38(type:int@35-38) list@38-38))))",
		"func f ( ) { }":                                              "module@0-14(func:f@0-14(list@8-8 list@10-10 list@11-14(block@11-14)))",
		"func f(a:int , b : c . D ) : void { { } }":                   "module@0-41(func:f@0-41(list@7-24(param:a@7-12(type:int@9-12) param:b@15-24(type:c.D@19-24)) list@29-33(type:void@29-33) list@34-41(block@34-41(block@36-39))))",
		"var x : int = ( 1 ) ;":                                       "module@0-21(var:x@0-21(type:int@8-11 list@14-19(int:1@14-19)))",
		"var x: int; func x() {} class x {} interface x {} var x: x;": "module(var:x(type:int list) func:x(list list list(block)) class:x(list list list) interface:x(list list) var:x(type:x list))",
	} {
		reads(t, module, s, want)
	}
	refuses(t, module, "func f(a:int , b : c . D ) : void { ; }", 36, api.ErrSyntax)
	refuses(t, module, "var x: int; import a;", 12, api.ErrSyntax)
	refuses(t, module, "import a; class A {} import b;", 21, api.ErrSyntax)
}

func TestStatements(t *testing.T) { // P12.1, P12.2
	for s, want := range map[string]string{
		"var x: int;":                    "var:x@0-11(type:int@7-10 list@10-10)",
		"var x: a.B = y;":                "var:x@0-15(type:a.B@7-10 list@13-14(name:y@13-14))",
		"{ }":                            "block@0-3",
		"{ {} a; }":                      "block@0-9(block@2-4 do@5-7(name:a@5-6))",
		"return;":                        "return@0-7",
		"return ( a ) ;":                 "return@0-14(name:a@7-12)",
		"return-a;":                      "return@0-9(unary:-@6-8(name:a@7-8))",
		"if ( a ) { }":                   "if@0-12(name:a@5-6 block@9-12 list@12-12)",
		"if (( a )) { } // x":            "if@0-14(name:a@4-9 block@11-14 list@14-14)",
		"if (a) {} else { b; }":          "if@0-21(name:a@4-5 block@7-9 list@15-21(block@15-21(do@17-19(name:b@17-18))))",
		"if(a){b;}else{}":                "if@0-15(name:a@3-4 block@5-9(do@6-8(name:b@6-7)) list@13-15(block@13-15))",
		"while ( a ) { }":                "while@0-15(name:a@8-9 block@12-15)",
		"while((a)){{}return;}":          "while@0-21(name:a@6-9 block@10-21(block@11-13 return@13-20))",
		"a = b;":                         "assign@0-6(name:a@0-1 name:b@4-5)",
		"( a ) = ( b ) ;":                "assign@0-15(name:a@0-5 name:b@8-13)",
		"1 + 2 = f();":                   "assign(binary:+(int:1 int:2) call(name:f))",
		"a;":                             "do@0-2(name:a@0-1)",
		" ( ( a ) ) ;":                   "do@1-12(name:a@1-10)",
		"f(a);":                          "do(call(name:f name:a))",
		"\"a\\n\";":                      "do@0-6(text:a\n@0-5)",
		"if (a) { if (b) {} else {} }":   "if(name:a block(if(name:b block list(block))) list)",
		"if (a) { if (b) {} } else {}":   "if(name:a block(if(name:b block list)) list(block))",
		"a == b;":                        "do(binary:==(name:a name:b))",
		"a = b == c;":                    "assign(name:a binary:==(name:b name:c))",
		"{ var a: int; a = 1; return; }": "block(var:a(type:int list) assign(name:a int:1) return)",
	} {
		reads(t, syntax.FragStmt, s, want)
		n, _, err := syntax.Module("func f() {" + s + "\n}")
		if err != api.OK {
			t.Errorf("%q: %d", s, err)
			continue
		}
		block := n.Kids[0].Kids[2].Kids[0]
		if want, _, _ = strings.Cut(want, "@"); len(block.Kids) != 1 || !strings.HasPrefix(dump(block.Kids[0], false), want) {
			t.Errorf("%q: %s", s, dump(n, false))
		}
		if f, _, _ := syntax.Fragment(syntax.FragStmt, s); !syntax.Same(f, block.Kids[0]) {
			t.Errorf("%q: %s", s, dump(n, false))
		}
	}
	refuses(t, syntax.FragStmt, "1 = f() = 2;", 8, api.ErrSyntax)
	refuses(t, syntax.FragStmt, ";", 0, api.ErrSyntax)
}

func TestExpressions(t *testing.T) { // P12.1, P12.2
	for s, want := range map[string]string{
		"a":                               "name:a@0-1",
		"12":                              "int:12@0-2",
		`"a\"b"`:                          `text:a"b@0-6`,
		`""`:                              "text@0-2",
		"true":                            "const:true@0-4",
		"false":                           "const:false@0-5",
		"null":                            "const:null@0-4",
		"this":                            "const:this@0-4",
		"(a)":                             "name:a@0-3",
		" ( ( a ) ) ":                     "name:a@1-10",
		"((((((((((((((a))))))))))))))":   "name:a@0-29",
		"new A()":                         "new:A@0-7",
		"new a . B ( 1 , c )":             "new:a.B@0-19(int:1@12-13 name:c@16-17)",
		"new A().b":                       "member:b@0-9(new:A@0-7)",
		"new A()()":                       "call@0-9(new:A@0-7)",
		"a . b":                           "member:b@0-5(name:a@0-1)",
		"a.b.c":                           "member:c@0-5(member:b@0-3(name:a@0-1))",
		"(a.b).c":                         "member:c@0-7(member:b@0-5(name:a@1-2))",
		"( a ) . b":                       "member:b@0-9(name:a@0-5)",
		"1.a":                             "member:a@0-3(int:1@0-1)",
		`"x".a`:                           "member:a@0-5(text:x@0-3)",
		"this.a":                          "member:a@0-6(const:this@0-4)",
		"f()":                             "call@0-3(name:f@0-1)",
		"f ( )":                           "call@0-5(name:f@0-1)",
		"f(a)":                            "call@0-4(name:f@0-1 name:a@2-3)",
		"f((a), ((b)))":                   "call@0-13(name:f@0-1 name:a@2-5 name:b@7-12)",
		"(f)(a)":                          "call@0-6(name:f@0-3 name:a@4-5)",
		"((f))()":                         "call@0-7(name:f@0-5)",
		"(a+b)()":                         "call@0-7(binary:+@0-5(name:a@1-2 name:b@3-4))",
		"(-a)()":                          "call@0-6(unary:-@0-4(name:a@2-3))",
		"f()()":                           "call@0-5(call@0-3(name:f@0-1))",
		"f(a)(b)":                         "call@0-7(call@0-4(name:f@0-1 name:a@2-3) name:b@5-6)",
		"a.f(b).c(d)":                     "call@0-11(member:c@0-8(call@0-6(member:f@0-3(name:a@0-1) name:b@4-5)) name:d@9-10)",
		"-a":                              "unary:-@0-2(name:a@1-2)",
		"! a":                             "unary:!@0-3(name:a@2-3)",
		"!-! a":                           "unary:!@0-5(unary:-@1-5(unary:!@2-5(name:a@4-5)))",
		"--a":                             "unary:-@0-3(unary:-@1-3(name:a@2-3))",
		"-a.b":                            "unary:-@0-4(member:b@1-4(name:a@1-2))",
		"!f(a)":                           "unary:!@0-5(call@1-5(name:f@1-2 name:a@3-4))",
		"(-a).b":                          "member:b@0-6(unary:-@0-4(name:a@2-3))",
		"-(a + b)":                        "unary:-@0-8(binary:+@1-8(name:a@2-3 name:b@6-7))",
		"-a + b":                          "binary:+@0-6(unary:-@0-2(name:a@1-2) name:b@5-6)",
		"a - -b":                          "binary:-@0-6(name:a@0-1 unary:-@4-6(name:b@5-6))",
		"a--b":                            "binary:-@0-4(name:a@0-1 unary:-@2-4(name:b@3-4))",
		"a*!b":                            "binary:*@0-4(name:a@0-1 unary:!@2-4(name:b@3-4))",
		"a + b * (c)":                     "binary:+@0-11(name:a@0-1 binary:*@4-11(name:b@4-5 name:c@8-11))",
		"(a + b) * c":                     "binary:*@0-11(binary:+@0-7(name:a@1-2 name:b@5-6) name:c@10-11)",
		"((a + b)) * c":                   "binary:*@0-13(binary:+@0-9(name:a@2-3 name:b@6-7) name:c@12-13)",
		"( a ) + ( b )":                   "binary:+@0-13(name:a@0-5 name:b@8-13)",
		"a - b - c":                       "binary:-@0-9(binary:-@0-5(name:a@0-1 name:b@4-5) name:c@8-9)",
		"a - (b - c)":                     "binary:-@0-11(name:a@0-1 binary:-@4-11(name:b@5-6 name:c@9-10))",
		"(a - b) - c":                     "binary:-@0-11(binary:-@0-7(name:a@1-2 name:b@5-6) name:c@10-11)",
		"a < b < c":                       "binary:<@0-9(binary:<@0-5(name:a@0-1 name:b@4-5) name:c@8-9)",
		"a == b != c":                     "binary:!=(binary:==(name:a name:b) name:c)",
		"a || b && c == d < e + f * -g.h": "binary:||(name:a binary:&&(name:b binary:==(name:c binary:<(name:d binary:+(name:e binary:*(name:f unary:-(member:h(name:g))))))))",
		"a.b * c + d < e == f && g || h":  "binary:||(binary:&&(binary:==(binary:<(binary:+(binary:*(member:b(name:a) name:c) name:d) name:e) name:f) name:g) name:h)",
		"a // x\n + // y\n b // z":        "binary:+@0-17(name:a@0-1 name:b@16-17)",
	} {
		reads(t, syntax.FragExpr, s, want)
		n, _, err := syntax.Module("var v: int = " + s + "\n;")
		f, _, _ := syntax.Fragment(syntax.FragExpr, s)
		if err != api.OK || !syntax.Same(f, n.Kids[0].Kids[1].Kids[0]) {
			t.Errorf("%q: %s, %d", s, dump(n, false), err)
		}
	}
}

func TestNoExpressions(t *testing.T) { // P12.1, P12.2
	for s, at := range map[string]int{
		"(new A)": 6, "new a.b.c()": 7, "new (A)()": 4, "new 1()": 4, "new": 3, "new a.": 6, "()": 1, "a b": 2, "a.1": 2, "a.(b)": 2, "a.if": 2, "a..b": 2, "f(a,)": 4, "f(,a)": 2, "f(a b)": 4, "f(a; b)": 3,
		"a ! b": 2, "a +": 3, "+ a": 0, "a === b": 4, "-": 1, "if": 0, "(a": 2, "a)": 1, "a }": 2, "a, b": 1, "a \"b\"": 2, "a 1": 2, "a true": 2, "a new B()": 2, "1a": 1, "true false": 5,
	} {
		refuses(t, syntax.FragExpr, s, at, api.ErrSyntax)
		refuses(t, module, "var v: int = "+s, 13+at, api.ErrSyntax)
	}
}

// operatorLevels are the operators of each level, the lowest one first.
var operatorLevels = []string{"||", "&&", "== !=", "< >", "+ -", "* / %"}

func TestOperators(t *testing.T) { // P12.1: each operator beside each other one
	for i, low := range operatorLevels {
		for _, a := range strings.Fields(low) {
			reads(t, syntax.FragExpr, "x"+a+" y", "binary:"+a+"(name:x name:y)")
			reads(t, syntax.FragExpr, "(x"+a+"y)", "binary:"+a+"@0-"+strconv.Itoa(len(a)+4)+"(name:x@1-2 name:y@"+strconv.Itoa(len(a)+2)+"-"+strconv.Itoa(len(a)+3)+")")
			reads(t, syntax.FragExpr, "!x"+a+"!y", "binary:"+a+"(unary:!(name:x) unary:!(name:y))")
			reads(t, syntax.FragExpr, "-(x"+a+"y)", "unary:-(binary:"+a+"(name:x name:y))")
			for j, other := range operatorLevels {
				for _, b := range strings.Fields(other) {
					left := "binary:" + b + "(binary:" + a + "(name:x name:y) name:z)"
					right := "binary:" + a + "(name:x binary:" + b + "(name:y name:z))"
					if i >= j {
						reads(t, syntax.FragExpr, "x"+a+"y"+b+"z", left)
					} else {
						reads(t, syntax.FragExpr, "x"+a+"y"+b+"z", right)
					}
					reads(t, syntax.FragExpr, "(x"+a+"y)"+b+"z", left)
					reads(t, syntax.FragExpr, "x"+a+"(y"+b+"z)", right)
				}
			}
		}
	}
	for _, mark := range strings.Fields("{ } ( ) ; , : . = == != < > + - * / % ! && ||") {
		if _, _, err := syntax.Fragment(syntax.FragExpr, "x "+mark+" 1"); (err == api.OK) != strings.Contains(" "+strings.Join(operatorLevels, " ")+" ", " "+mark+" ") {
			t.Errorf("%s between expressions: %d", mark, err)
		}
		if _, _, err := syntax.Fragment(syntax.FragExpr, mark+" 1"); (err == api.OK) != (mark == "!" || mark == "-") {
			t.Errorf("%s before an expression: %d", mark, err)
		}
	}
}

func TestParentheses(t *testing.T) { // P12.1: around every kind of expression
	for inner, want := range map[string]string{
		"a": "name:a@", "1": "int:1@", `"s"`: "text:s@", "null": "const:null@", "a.b": "member:b@", "f(a)": "call@", "new A(b)": "new:A@", "!a": "unary:!@", "a + b": "binary:+@", "(a)": "name:a@", "f()": "call@",
	} {
		for _, s := range []string{"(" + inner + ")", "( " + inner + " )", "(// x\n" + inner + "\t)", "((" + inner + "))", "( ( " + inner + ") )"} {
			whole := "0-" + strconv.Itoa(len(s))
			n, _, err := syntax.Fragment(syntax.FragExpr, s)
			if got := dump(n, true); err != api.OK || !strings.HasPrefix(got, want+whole) {
				t.Errorf("%q: %s, %d", s, got, err)
			}
			for suffix, kind := range map[string]int{".x": api.NdMember, "(x)": api.NdCall, " + x": api.NdBinary, " && x": api.NdBinary} {
				n, _, err := syntax.Fragment(syntax.FragExpr, s+suffix)
				if err != api.OK || n.Kind != kind || n.At != 0 || n.End != len(s+suffix) || !strings.HasPrefix(dump(n.Kids[0], true), want+whole) {
					t.Errorf("%q: %s, %d", s+suffix, dump(n, true), err)
				}
			}
			for _, prefix := range []string{"!", "x * ", "x = "} {
				n, _, err := syntax.Fragment(syntax.FragStmt, prefix+s+" ;")
				last := n
				for err == api.OK && len(last.Kids) > 0 && last.At < len(prefix) {
					last = last.Kids[len(last.Kids)-1]
				}
				if err != api.OK || !strings.HasPrefix(dump(last, true), want) || last.At != len(prefix) || last.End != len(prefix)+len(s) {
					t.Errorf("%q: %s, %d", prefix+s, dump(n, true), err)
				}
			}
		}
	}
}
