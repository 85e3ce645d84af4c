package format_test

import (
	"strings"
	"testing"

	"codesearch/api"
	"codesearch/format"
	"codesearch/syntax"
)

func TestExamples(t *testing.T) { // P13.1 to P13.4
	if got, at, err := format.Clean("class A{var n:int;func f(x:A):int{return(x.n+1)*2;}}"); at != 0 || err != api.OK ||
		got != strings.Join([]string{"class A {", "  var n: int;", "  func f(x: A): int {", "    return (x.n + 1) * 2;", "  }", "}", ""}, "\n") {
		t.Errorf("%q, %d, %d", got, at, err)
	}
	name := func(s string) api.Node { return api.Node{Kind: api.NdName, Text: s} }
	minus := func(a, b api.Node) api.Node {
		return api.Node{Kind: api.NdBinary, Text: "-", Kids: []api.Node{a, b}}
	}
	if got, err := format.Fragment(minus(name("a"), minus(name("b"), name("c")))); got != "a - (b - c)" || err != api.OK {
		t.Errorf("%q, %d", got, err)
	}
	n, _, _ := syntax.Fragment(syntax.FragStmt, "if (a) { } else { b(); }")
	if got, err := format.Fragment(n); got != strings.Join([]string{"if (a) {", "} else {", "  b();", "}"}, "\n") || err != api.OK {
		t.Errorf("%q, %d", got, err)
	}
	if !format.Canonical("var x: int;\n") || format.Canonical("var x: int;") {
		t.Error("a line feed at the end")
	}
	if got, at, err := format.Clean("var x int;"); got != "" || at != 6 || err != api.ErrSyntax {
		t.Errorf("%q, %d, %d", got, at, err)
	}
}

func TestDeclarations(t *testing.T) { // P13.1, P13.3, P13.4
	for s, want := range map[string]string{
		"":                                  "",
		" // nothing\n\t":                   "",
		"import a;":                         "import a;\n",
		"import  a ; import\nb; import _0;": "import a;\nimport b;\nimport _0;\n",
		"import a;var x:int;":               "import a;\nvar x: int;\n",
		"import a;import b;class C{}func f(){}interface I{}var v:a.B;": "import a;\nimport b;\nclass C {\n}\nfunc f() {\n}\ninterface I {\n}\nvar v: a.B;\n",
		"import interface_;func new_(){}":                              "import interface_;\nfunc new_() {\n}\n",

		"class A{}":                                         "class A {\n}\n",
		"class A\n{\n}":                                     "class A {\n}\n",
		"class A{}class B{}":                                "class A {\n}\nclass B {\n}\n",
		"class A extends B{}":                               "class A extends B {\n}\n",
		"class A extends b . B{}":                           "class A extends b.B {\n}\n",
		"class A implements I{}":                            "class A implements I {\n}\n",
		"class A implements I,J{}":                          "class A implements I, J {\n}\n",
		"class A implements i.I ,J , k. K{}":                "class A implements i.I, J, k.K {\n}\n",
		"class A extends B implements I{}":                  "class A extends B implements I {\n}\n",
		"class A extends a.B implements b.I,c.J,K{}":        "class A extends a.B implements b.I, c.J, K {\n}\n",
		"class A{var n:int;}":                               "class A {\n  var n: int;\n}\n",
		"class A{var n:int=1;var m:b.C=new b.C();}":         "class A {\n  var n: int = 1;\n  var m: b.C = new b.C();\n}\n",
		"class A{func f(){}}":                               "class A {\n  func f() {\n  }\n}\n",
		"class A{func f(){}func g(){}var n:int;func h(){}}": "class A {\n  func f() {\n  }\n  func g() {\n  }\n  var n: int;\n  func h() {\n  }\n}\n",
		"class A extends B implements I{var n:int;func f(a:int,b:c.D):int{return n;}}": "class A extends B implements I {\n  var n: int;\n  func f(a: int, b: c.D): int {\n    return n;\n  }\n}\n",

		"interface I{}":                                                "interface I {\n}\n",
		"interface I extends J{}":                                      "interface I extends J {\n}\n",
		"interface I extends J,k.K{}":                                  "interface I extends J, k.K {\n}\n",
		"interface I extends a.J,b.K,L{}":                              "interface I extends a.J, b.K, L {\n}\n",
		"interface I{func f();}":                                       "interface I {\n  func f();\n}\n",
		"interface I{func f():int;}":                                   "interface I {\n  func f(): int;\n}\n",
		"interface I{func f(a:int);}":                                  "interface I {\n  func f(a: int);\n}\n",
		"interface I{func f(a:int,b:c.D):e.F;func g();func h():void;}": "interface I {\n  func f(a: int, b: c.D): e.F;\n  func g();\n  func h(): void;\n}\n",
		"interface I extends J{func f ( ) ; }":                         "interface I extends J {\n  func f();\n}\n",

		"func f(){}":                     "func f() {\n}\n",
		"func f():int{}":                 "func f(): int {\n}\n",
		"func f():a.B{}":                 "func f(): a.B {\n}\n",
		"func f(a:int){}":                "func f(a: int) {\n}\n",
		"func f(a:int,b:string){}":       "func f(a: int, b: string) {\n}\n",
		"func f(a:x.A,b:B,c:y.C):void{}": "func f(a: x.A, b: B, c: y.C): void {\n}\n",
		"func f(){return;}":              "func f() {\n  return;\n}\n",
		"func f(){a();b();}func g(){}":   "func f() {\n  a();\n  b();\n}\nfunc g() {\n}\n",

		"var x:int;":                 "var x: int;\n",
		"var x:a.B;":                 "var x: a.B;\n",
		"var x : a\n.\nB ;":          "var x: a.B;\n",
		"var x:int=1;":               "var x: int = 1;\n",
		"var x:int=(1);":             "var x: int = 1;\n",
		"var x:int=-1;var y:A=null;": "var x: int = -1;\nvar y: A = null;\n",
	} {
		becomes(t, module, s, want)
	}
	for s, want := range map[string]string{"class A{}": "class A {\n}", "interface I{}": "interface I {\n}", "func f(){}": "func f() {\n}", "var x:int;": "var x: int;", "class A{var n:int;}": "class A {\n  var n: int;\n}"} {
		becomes(t, syntax.FragDecl, s, want)
	}
}

// statements have their lines, without a line feed behind the last one.
var statements = map[string]string{
	"var x:int;":                         "var x: int;",
	"var x:a.B=f(1);":                    "var x: a.B = f(1);",
	"{}":                                 "{\n}",
	"{ { } }":                            "{\n  {\n  }\n}",
	"{{}{}}":                             "{\n  {\n  }\n  {\n  }\n}",
	"{a();}":                             "{\n  a();\n}",
	"{a();{b();{c();}d();}e();}":         "{\n  a();\n  {\n    b();\n    {\n      c();\n    }\n    d();\n  }\n  e();\n}",
	"{{{{{{{}}}}}}}":                     "{\n  {\n    {\n      {\n        {\n          {\n            {\n            }\n          }\n        }\n      }\n    }\n  }\n}",
	"return;":                            "return;",
	"return ;":                           "return;",
	"return a;":                          "return a;",
	"return(a);":                         "return a;",
	"return(a+b)*c;":                     "return (a + b) * c;",
	"return-1;":                          "return -1;",
	"return!a;":                          "return !a;",
	"return new A();":                    "return new A();",
	"return\"\";":                        "return \"\";",
	"if(a){}":                            "if (a) {\n}",
	"if((a)){}":                          "if (a) {\n}",
	"if((a+b)*c){}":                      "if ((a + b) * c) {\n}",
	"if(!a){b();}":                       "if (!a) {\n  b();\n}",
	"if(a){}else{}":                      "if (a) {\n} else {\n}",
	"if(a){b();}else{}":                  "if (a) {\n  b();\n} else {\n}",
	"if(a){b();c();}else{d();e();}":      "if (a) {\n  b();\n  c();\n} else {\n  d();\n  e();\n}",
	"if(a){if(b){}}":                     "if (a) {\n  if (b) {\n  }\n}",
	"if(a){if(b){}else{}}":               "if (a) {\n  if (b) {\n  } else {\n  }\n}",
	"if(a){if(b){}}else{}":               "if (a) {\n  if (b) {\n  }\n} else {\n}",
	"if(a){}else{if(b){c();}else{d();}}": "if (a) {\n} else {\n  if (b) {\n    c();\n  } else {\n    d();\n  }\n}",
	"if(a){if(b){}else{}}else{if(c){}else{}}": "if (a) {\n  if (b) {\n  } else {\n  }\n} else {\n  if (c) {\n  } else {\n  }\n}",
	"if(a){{}}else{{}}":                       "if (a) {\n  {\n  }\n} else {\n  {\n  }\n}",
	"while(a){}":                              "while (a) {\n}",
	"while((a<b)){a=a+1;}":                    "while (a < b) {\n  a = a + 1;\n}",
	"while(true){while(this){return;}}":       "while (true) {\n  while (this) {\n    return;\n  }\n}",
	"while(a){if(b){}else{}{}return;}":        "while (a) {\n  if (b) {\n  } else {\n  }\n  {\n  }\n  return;\n}",
	"a=b;":                                    "a = b;",
	"(a)=(b);":                                "a = b;",
	"a.b=c.d;":                                "a.b = c.d;",
	"a+b=c==d;":                               "a + b = c == d;",
	"a==b=c;":                                 "a == b = c;",
	"a=-b;":                                   "a = -b;",
	"-a=!b;":                                  "-a = !b;",
	"f()=new A(1,2);":                         "f() = new A(1, 2);",
	"a;":                                      "a;",
	"(a);":                                    "a;",
	"((a+b)).c();":                            "(a + b).c();",
	"f();":                                    "f();",
	"f(a,b);":                                 "f(a, b);",
	"1;":                                      "1;",
	"\"a\";":                                  "\"a\";",
	"null;":                                   "null;",
	"-a;":                                     "-a;",
	"a+b;":                                    "a + b;",
	"new A();":                                "new A();",
}

func TestStatements(t *testing.T) { // P13.1 to P13.5
	for s, want := range statements {
		becomes(t, syntax.FragStmt, s, want)
		n, _, _ := syntax.Fragment(syntax.FragStmt, s)
		room := api.MaxDepth - syntax.Depth(n)
		inside := strings.ReplaceAll("\n"+want, "\n", "\n  ")
		if room >= 4 {
			becomes(t, module, "func f(){"+s+"}", "func f() {"+inside+"\n}\n")
			becomes(t, module, "func f(){x;"+s+"return;}", "func f() {\n  x;"+inside+"\n  return;\n}\n")
			becomes(t, syntax.FragDecl, "func f(){"+s+s+"}", "func f() {"+inside+inside+"\n}")
			becomes(t, syntax.FragStmt, "while(x){"+s+s+"}", "while (x) {"+inside+inside+"\n}")
			becomes(t, syntax.FragStmt, "if(x){"+s+"}else{y;"+s+"}", "if (x) {"+inside+"\n} else {\n  y;"+inside+"\n}")
		}
		if room >= 6 {
			deeper := strings.ReplaceAll("\n"+want, "\n", "\n    ")
			becomes(t, module, "class A{func f(){"+s+"}var n:int;}", "class A {\n  func f() {"+deeper+"\n  }\n  var n: int;\n}\n")
		}
	}
}

func TestLiterals(t *testing.T) { // P13.1, P13.2
	parts := []string{"", "\"", "\\", "\n", "a", " ", "n", "//", "$x", "(", "~", "'", "`", "%d", "\\n", "\\\""}
	literal := func(contents string) (api.Node, string) {
		var s []byte
		for _, c := range []byte(contents) {
			switch c {
			case '\n':
				s = append(s, '\\', 'n')
			case '"', '\\':
				s = append(s, '\\', c)
			default:
				s = append(s, c)
			}
		}
		return api.Node{Kind: api.NdText, Text: contents}, `"` + string(s) + `"`
	}
	check := func(contents string) {
		n, want := literal(contents)
		if got, err := format.Fragment(n); got != want || err != api.OK {
			t.Errorf("%q: %s, %d, not %s", contents, got, err, want)
		}
		tree, _, _ := syntax.Module(`var x: int = "";`)
		tree.Kids[0].Kids[1].Kids[0] = n
		if got, err := format.Module(tree); got != "var x: int = "+want+";\n" || err != api.OK {
			t.Errorf("%q: %s, %d", contents, got, err)
		}
		becomes(t, module, "var x:int="+want+";", "var x: int = "+want+";\n")
		becomes(t, syntax.FragExpr, want, want)
	}
	for _, a := range parts {
		for _, b := range parts {
			for _, c := range parts {
				check(a + b + c)
			}
		}
	}
	for c := byte(32); c < 127; c++ {
		check(string([]byte{c}))
		check(string([]byte{'a', c, 'n'}))
	}
	for _, c := range []string{"a", "\"", "\\", "\n"} {
		check(strings.Repeat(c, api.MaxPath))
		n, _ := literal(strings.Repeat(c, api.MaxPath+1))
		refused(t, n)
	}
	for c := range 256 {
		if c != '\n' && (c < 32 || c > 126) {
			refused(t, api.Node{Kind: api.NdText, Text: string([]byte{byte(c)})})
			refused(t, api.Node{Kind: api.NdText, Text: string([]byte{'a', byte(c), 'b'})})
		}
	}
	refused(t, api.Node{Kind: api.NdText, Text: "é"})
	refused(t, api.Node{Kind: api.NdText, Text: "\u2028"})
}

// refused wants Fragment to report ErrArg.
func refused(t *testing.T, n api.Node) {
	t.Helper()
	if got, err := format.Fragment(n); got != "" || err != api.ErrArg {
		t.Errorf("%s: %q, %d", dump(n, false), got, err)
	}
}

// moved returns a tree with other positions.
func moved(n api.Node, by int) api.Node {
	n.At, n.End = by-n.End, by*n.At
	kids := make([]api.Node, len(n.Kids))
	for i := range kids {
		kids[i] = moved(n.Kids[i], by-1)
	}
	n.Kids = kids
	return n
}

func TestPositions(t *testing.T) { // P13.1, P13.2: they do not matter
	for s, want := range statements {
		n, _, _ := syntax.Fragment(syntax.FragStmt, s)
		for _, by := range []int{0, 1, -7, 1 << 40} {
			if got, err := format.Fragment(moved(n, by)); got != want || err != api.OK {
				t.Errorf("%q, moved by %d: %q, %d", s, by, got, err)
			}
		}
	}
	s := "class A extends B {\n  func f(a: int): int {\n    return -a;\n  }\n}\nvar x: int = (1 + 2) * 3;\n"
	n, _, _ := syntax.Module(s)
	for _, by := range []int{0, 1, -7, 1 << 40} {
		if got, err := format.Module(moved(n, by)); got != s || err != api.OK {
			t.Errorf("moved by %d: %q, %d", by, got, err)
		}
	}
}

// imports returns a module of imports with a text of some bytes, at least those of one.
func imports(bytes int) api.Node {
	n := api.Node{Kind: api.NdModule}
	const shortest = len("import i;\n")
	for bytes > 0 {
		next := min(bytes, shortest+api.MaxName-1)
		if rest := bytes - next; rest > 0 && rest < shortest {
			next -= shortest
		}
		n.Kids = append(n.Kids, api.Node{Kind: api.NdImport, Text: strings.Repeat("i", next-shortest+1)})
		bytes -= next
	}
	return n
}

func TestModuleErrors(t *testing.T) { // P13.1
	wrong := func(n api.Node) {
		t.Helper()
		if got, err := format.Module(n); got != "" || err != api.ErrArg || syntax.Right(n) {
			t.Errorf("%.200s: %q, %d", dump(n, false), got, err)
		}
	}
	wrong(api.Node{})
	wrong(api.Node{Kind: api.NdModule, Text: "m"})
	for kind := -1; kind <= 28; kind++ {
		if kind != api.NdModule {
			wrong(api.Node{Kind: kind})
			wrong(api.Node{Kind: kind, Text: "a"})
		}
		if kind != api.NdImport {
			wrong(api.Node{Kind: api.NdModule, Kids: []api.Node{{Kind: kind, Text: "a"}}})
		}
	}
	for what, l := range map[int][]string{syntax.FragExpr: {"a", "$X", "f($$A)"}, syntax.FragStmt: {"{}", "$$S;", "a = b;", "return;"}, syntax.FragDecl: {"class A { $M; }", "func f($$P) {}", "var x: $T;", "class A extends $T {}", "interface I extends $$T {}", "func f(): $R {}", "var x: int = $X;", "func f() { $$S; }"}} {
		for _, s := range l {
			n, _, err := syntax.Fragment(what, s)
			if err != api.OK {
				t.Fatal(s)
			}
			wrong(n)
			wrong(api.Node{Kind: api.NdModule, Kids: []api.Node{n}})
			if _, err := format.Fragment(n); err != api.OK {
				t.Errorf("%q is no fragment", s)
			}
		}
	}
	for _, text := range []string{"", "if", "1", "a b", "a.b", "a\n", "$a", strings.Repeat("n", api.MaxName+1)} {
		wrong(api.Node{Kind: api.NdModule, Kids: []api.Node{{Kind: api.NdImport, Text: text}}})
	}
	long := imports(5 * api.MaxText)
	long.Kids = append(long.Kids, api.Node{Kind: api.NdImport, Text: "if"})
	wrong(long)
	long.Kids[len(long.Kids)-1] = api.Node{Kind: api.NdImport, Text: strings.Repeat("n", 10*api.MaxText)}
	wrong(long)
	deep := api.Node{Kind: api.NdName, Text: "a"}
	for range api.MaxDepth {
		deep = api.Node{Kind: api.NdUnary, Text: "-", Kids: []api.Node{deep}}
	}
	tree, _, _ := syntax.Module("var x: int = 1;")
	tree.Kids[0].Kids[1].Kids[0] = deep
	wrong(tree)
}

func TestModuleLong(t *testing.T) { // P13.1: MaxText bytes, and one more
	for bytes := 10; bytes <= api.MaxText+50; bytes++ {
		if bytes == 50 {
			bytes = api.MaxText - 50
		}
		n := imports(bytes)
		got, err := format.Module(n)
		if bytes > api.MaxText {
			if got != "" || err != api.ErrLong {
				t.Errorf("%d bytes: %d bytes, %d", bytes, len(got), err)
			}
			continue
		}
		if len(got) != bytes || err != api.OK || !format.Canonical(got) {
			t.Errorf("%d bytes: %d bytes, %d", bytes, len(got), err)
		}
	}
	blocks := func(statements int, last string) string { // in which blanks make the text long
		return "func f(){{{{{" + strings.Repeat("a;", statements) + last + "}}}}}"
	}
	whole := len(canonical(module, blocks(0, "")))
	for statements := range 200 {
		for _, last := range []string{"", "b;", "bc;", "bcd;", "bcde;", "bcdef;", "return;", "return 1;", "return 12;", "return 123;", "return 1234;", "return 12345;", "return 123456;"} {
			length := whole + statements*(10+3)
			if last != "" {
				length += 10 + len(last) + 1
			}
			s := blocks(statements, last)
			n, _, err := syntax.Module(s)
			if err != api.OK {
				t.Fatal(s)
			}
			got, err := format.Module(n)
			clean, at, err2 := format.Clean(s)
			if clean != got || at != 0 || err2 != err {
				t.Errorf("%d bytes: %d, %d", length, at, err2)
			}
			if length <= api.MaxText && (err != api.OK || len(got) != length) || length > api.MaxText && (err != api.ErrLong || got != "") {
				t.Errorf("%d bytes: %d bytes, %d", length, len(got), err)
			}
		}
	}
}

func TestModuleTokens(t *testing.T) { // P13.1, P13.5: MaxTokens tokens, and more, in a text that is not too long
	for arguments := 290; arguments <= 310; arguments++ {
		tree, _, _ := syntax.Module("import m; var x: int = f();")
		call := &tree.Kids[1].Kids[1].Kids[0]
		for range arguments {
			call.Kids = append(call.Kids, api.Node{Kind: api.NdName, Text: "a"})
		}
		want := "import m;\nvar x: int = f(" + strings.TrimSuffix(strings.Repeat("a, ", arguments), ", ") + ");\n"
		got, err := format.Module(tree)
		if got != want || err != api.OK {
			t.Errorf("%d arguments: %q, %d", arguments, got, err)
		}
		if 11+2*arguments <= api.MaxTokens {
			cleaned(t, want, want)
			continue
		}
		_, at, _ := syntax.Module(want)
		unclean(t, want, at, api.ErrLong)
	}
}
