package format_test

import (
	"strings"
	"testing"

	"codesearch/api"
	"codesearch/format"
	"codesearch/syntax"
)

// unclean wants Clean to report an error of syntax.Module.
func unclean(t *testing.T, s string, at int, err api.Errno) {
	t.Helper()
	if got, gotAt, gotErr := format.Clean(s); got != "" || gotAt != at || gotErr != err {
		t.Errorf("%.200q: %q, %d, %d, not %d, %d", s, got, gotAt, gotErr, at, err)
	}
	if _, gotAt, gotErr := syntax.Module(s); gotAt != at || gotErr != err {
		t.Errorf("%.200q: %d, %d", s, gotAt, gotErr)
	}
	if format.Canonical(s) {
		t.Errorf("%.200q is canonical", s)
	}
}

func TestCleanErrors(t *testing.T) { // P13.3, P13.4
	for s, at := range map[string]int{
		"var x int;": 6, "var x: int": 10, "var x: int;\n#": 12, "x": 0, "import": 6, "import a": 8, "var x: int; import a;": 12, "class A { x }": 10, "class A {": 9, "func f() { return }": 18, "func f();": 8, "interface I { func f() {} }": 23, "var x: int = ;": 13, "var x: int = (a;": 15, "var x: int = a);": 14,
		"var x: int = \"a": 13, "var x: int = 01;": 13, "var x: int = $X;": 13, "$M;": 0, "$$M;": 0, "func f($$P) {}": 7, "var x: int = a & b;": 15, "func f() { if (a) b; }": 18, "func f() { else {} }": 11, "\r": 0, "var x: int;\x00": 11, "é": 0, "var if: int;": 4, "func f() { a = b = c; }": 17,
	} {
		unclean(t, s, at, api.ErrSyntax)
		unclean(t, " // x\n"+s, at+6, api.ErrSyntax)
		if !strings.HasPrefix(s, "import") {
			unclean(t, "var y:int;"+s, at+10, api.ErrSyntax)
		}
	}
	name := strings.Repeat("n", api.MaxName)
	for s, at := range map[string]int{
		"import " + name + "n;": 7, "var x: int = 1234567890;": 13, "var x: int = \"" + strings.Repeat("s", api.MaxPath+1) + "\";": 13,
		strings.Repeat("import a;", 200) + "import a;": 1800,
		"func f(){{{{{{{{{{}}}}}}}}}}":                 17,
		"var x: int = ---------a;":                     22,
		"var x: int = f(--a, --------a);":              28,
	} {
		unclean(t, s, at, api.ErrLong)
	}
	unclean(t, strings.Repeat("import a;", 200)+" #", 1801, api.ErrSyntax)
	unclean(t, strings.Repeat("import a;", 200)+" a #", 1801, api.ErrLong)
	whole := "func f(){a=b;if(c){}else{d();}}"
	for i := range whole {
		_, at, err := syntax.Module(whole[:i])
		if i > 0 {
			unclean(t, whole[:i], at, err)
		}
	}
}

func TestCleanLong(t *testing.T) { // P13.3: a text that is too long, of a source that is not, and the other way around
	statements := strings.Repeat("a;", 290)
	want := "func f() {\n" + strings.Repeat("  a;\n", 290) + "}\n"
	cleaned(t, "func f(){"+statements+"}", want)
	cleaned(t, "func f(){"+strings.ReplaceAll(statements, "a;", "a; // "+strings.Repeat("long ", 20)+"\n")+"}", want)
	cleaned(t, "func f(){"+strings.ReplaceAll(statements, "a", strings.Repeat(" ", 20)+"a")+"}", want)
	for blocks := 1; blocks < 6; blocks++ {
		s := "func f(){" + strings.Repeat("{", blocks) + statements + strings.Repeat("}", blocks) + "}"
		if got, at, err := format.Clean(s); got != "" || at != 0 || err != api.ErrLong || format.Canonical(s) || len(s) > api.MaxText {
			t.Errorf("%d blocks: %d bytes, %d, %d", blocks, len(got), at, err)
		}
	}
	name := strings.Repeat("n", api.MaxName)
	names := "var x:int=f(" + strings.Repeat(name+",", 90) + "a);"
	if got, at, err := format.Clean(names); got != "" || at != 0 || err != api.ErrLong || format.Canonical(names) {
		t.Errorf("%d bytes: %q, %d, %d", len(names), got, at, err)
	}
}

// canonicalTexts are texts of modules with every kind of node.
var canonicalTexts = []string{
	"", "import a;\n", "import a;\nimport b;\nvar x: int;\n", "class A {\n}\n", "interface I extends J, k.K {\n  func f();\n  func g(a: int): bool;\n}\n",
	"class A extends B implements C, d.E {\n  var n: int = -1;\n  func f(x: A): int {\n    return (x.n + 1) * 2;\n  }\n}\n",
	"func f() {\n  if (a) {\n  } else {\n    b();\n  }\n  {\n    return;\n  }\n}\n",
	"func f(): a.B {\n  while (!a < b) {\n    x = y.z;\n  }\n  var s: int = \"a\\n\\\"\";\n}\n",
	"var x: int = a - (b - c) == new A(1, null)(true);\n", "var x: a.T = -(a * b).c || (d || e);\n",
}

// isCanonical follows the definition.
func isCanonical(s string) bool {
	if _, _, err := syntax.Module(s); err != api.OK {
		return false
	}
	return canonical(module, s) == s && len(s) <= api.MaxText
}

func TestCanonical(t *testing.T) { // P13.4, P13.6: one byte left out, put in or changed
	bytes := "\x00\t\n\r \"$(),-./0:;=Aa\\{}!\xc3"
	trues, falses := 0, 0
	check := func(s string) {
		got := format.Canonical(s)
		if got != isCanonical(s) {
			t.Errorf("%q: %v", s, got)
		}
		if clean, _, err := format.Clean(s); got != (err == api.OK && clean == s) {
			t.Errorf("%q: %v, but clean it is %q, %d", s, got, clean, err)
		}
		if got {
			trues++
		} else {
			falses++
		}
	}
	for _, s := range canonicalTexts {
		cleaned(t, s, s)
		for i := range len(s) + 1 {
			if i < len(s) {
				check(s[:i] + s[i+1:])
			}
			for _, c := range []byte(bytes) {
				check(s[:i] + string([]byte{c}) + s[i:])
				if i < len(s) {
					check(s[:i] + string([]byte{c}) + s[i+1:])
				}
			}
		}
	}
	if trues < 100 || falses < 10000 {
		t.Errorf("%d canonical ones, %d others", trues, falses)
	}
	for _, s := range []string{" ", "\n", "// a\n", "var x: int;\n\n", "var x: int;\nvar y: int;", "\nvar x: int;\n", "var x: int; // a\n", "class A {}\n", "func f() {\nreturn;\n}\n", "func f() {\n\treturn;\n}\n", "func f() {\n    return;\n}\n", "func f() {\n  return;}\n", "var x: int = (a);\n", "var x: int = a-b;\n", "func f() {\n  if (a) {\n  }\n  else {\n  }\n}\n"} {
		if format.Canonical(s) || isCanonical(s) {
			t.Errorf("%q is canonical", s)
		}
	}
	if !format.Canonical("") {
		t.Error("the empty string is not canonical")
	}
}
