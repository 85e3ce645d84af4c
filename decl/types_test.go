package decl_test

import (
	"slices"
	"strings"
	"testing"

	"codesearch/api"
	"codesearch/decl"
)

// everyType is types as they stand in the sources of the module m, each with what it is.
var everyType = [][2]string{
	{"int", "int"}, {"bool", "bool"}, {"string", "string"}, {"void", "void"},
	{"A", "m.A"}, {"m", "m.m"}, {"_", "m._"}, {"a1", "m.a1"},
	{"Int", "m.Int"}, {"ints", "m.ints"}, {"in", "m.in"}, {"boolean", "m.boolean"}, {"strin", "m.strin"}, {"voi", "m.voi"}, {"VOID", "m.VOID"}, {"_int", "m._int"},
	{"m.A", "m.A"}, {"b.C", "b.C"}, {"m.m", "m.m"}, {"a.int", "a.int"}, {"int.a", "int.a"}, {"int.int", "int.int"}, {"m.int", "m.int"}, {"void.void", "void.void"},
	{"b . C", "b.C"}, {"b// not the end\n\t.\nC", "b.C"},
	{strings.Repeat("n", api.MaxName), "m." + strings.Repeat("n", api.MaxName)},
	{strings.Repeat("n", api.MaxName) + "." + strings.Repeat("o", api.MaxName), strings.Repeat("n", api.MaxName) + "." + strings.Repeat("o", api.MaxName)},
}

// declared returns the last declaration of a source in the module m.
func declared(t *testing.T, s string) api.Decl {
	t.Helper()
	l, p := decl.Of(parsed(t, "m", 7, s))
	if len(l) < 2 || len(p) > 0 {
		t.Fatalf("%q: %v, %v", s, l, p)
	}
	return l[len(l)-1]
}

func TestTypes(t *testing.T) {
	// P14.1: each type in each place that has one.
	for _, c := range everyType {
		source, want := c[0], c[1]
		for _, s := range []string{"var v: " + source + ";", "class A { var v: " + source + " = 1; }"} {
			if d := declared(t, s); d.Type != want || len(d.Params) > 0 || len(d.Supers) > 0 || d.Super {
				t.Errorf("%q: %v", s, d)
			}
		}
		for _, s := range []string{"func f(): " + source + " { }", "class A { func f(): " + source + " { } }", "interface I { func f(): " + source + "; }"} {
			if d := declared(t, s); d.Type != want || len(d.Params) > 0 || len(d.Supers) > 0 || d.Super {
				t.Errorf("%q: %v", s, d)
			}
		}
		for _, s := range []string{"func f(p: " + source + ") { }", "class A { func f(p: " + source + ") { } }", "interface I { func f(p: " + source + "); }"} {
			if d := declared(t, s); d.Type != "void" || !slices.Equal(d.Params, []string{want}) || len(d.Supers) > 0 || d.Super {
				t.Errorf("%q: %v", s, d)
			}
		}
		for _, s := range []string{"class A extends " + source + " { }", "class A implements " + source + " { }", "interface A extends " + source + " { }"} {
			super := strings.HasPrefix(s, "class A extends")
			if d := declared(t, s); d.Type != "" || len(d.Params) > 0 || !slices.Equal(d.Supers, []string{want}) || d.Super != super {
				t.Errorf("%q: %v", s, d)
			}
		}
	}
}

func TestModuleNames(t *testing.T) {
	// P14.1: the module's own name, whatever name it is, stands before names and types without a dot.
	for _, name := range []string{"m", "_", "int", "void", "A", "x1", strings.Repeat("m", api.MaxName)} {
		l, p := decl.Of(parsed(t, name, 7, "class A extends B { var v: int; func f(p: C): D { } } var w: m.E;"))
		if len(l) != 5 || len(p) > 0 || l[0].Name != name || l[1].Name != name+".A" || l[2].Name != name+".A.v" || l[3].Name != name+".A.f" || l[4].Name != name+".w" {
			t.Fatalf("module %s: %v, %v", name, l, p)
		}
		if l[1].Supers[0] != name+".B" || l[2].Type != "int" || l[3].Params[0] != name+".C" || l[3].Type != name+".D" || l[4].Type != "m.E" {
			t.Errorf("module %s: %v", name, l)
		}
	}
}

func TestParams(t *testing.T) {
	// P14.1: the parameters' types, in order, equal ones too, whatever the names of the parameters.
	for _, c := range []struct{ params, want string }{
		{"", ""},
		{"a: int", "int"},
		{"a: int, b: bool", "int bool"},
		{"b: bool, a: int", "bool int"},
		{"a: A, a: A, a: b.A", "m.A m.A b.A"},
		{"int: A, A: int, string: string, m: m.m, void: B", "m.A int string m.m m.B"},
	} {
		want := strings.Fields(c.want)
		for _, s := range []string{"func f(" + c.params + ") { }", "class A { func f(" + c.params + ") { var x: int; } }", "interface I { func f(" + c.params + "); }"} {
			if d := declared(t, s); d.Type != "void" || !slices.Equal(d.Params, want) {
				t.Errorf("%q: %v", s, d)
			}
		}
		if d := declared(t, "func f("+c.params+"): void.A { }"); d.Type != "void.A" || !slices.Equal(d.Params, want) {
			t.Errorf("%q with a result: %v", c.params, d)
		}
	}
}

func TestSupers(t *testing.T) {
	// P14.1: the type after extends before those after implements, in order; Super of a class alone.
	for _, c := range []struct {
		source, want string
		super        bool
	}{
		{"class A { }", "", false},
		{"class A extends B { }", "m.B", true},
		{"class A extends A { }", "m.A", true},
		{"class A extends b.B { }", "b.B", true},
		{"class A implements I { }", "m.I", false},
		{"class A implements J, I { }", "m.J m.I", false},
		{"class A implements I, k.J, I { }", "m.I k.J m.I", false},
		{"class A extends B implements I { }", "m.B m.I", true},
		{"class A extends b.B implements J, k.I, I { }", "b.B m.J k.I m.I", true},
		{"class A extends I implements I { }", "m.I m.I", true},
		{"interface A { }", "", false},
		{"interface A extends I { }", "m.I", false},
		{"interface A extends k.J, I { }", "k.J m.I", false},
		{"interface A extends A, I, A { }", "m.A m.I m.A", false},
	} {
		d := declared(t, c.source)
		if !slices.Equal(d.Supers, strings.Fields(c.want)) || d.Super != c.super || d.Type != "" || len(d.Params) > 0 {
			t.Errorf("%q: %v", c.source, d)
		}
		with := strings.Replace(c.source, "{ }", "{ func f(p: P): int; }", 1)
		if strings.HasPrefix(c.source, "class") {
			with = strings.Replace(c.source, "{ }", "{ var v: int; }", 1)
		}
		l, p := decl.Of(parsed(t, "m", 7, with))
		if len(l) != 3 || len(p) > 0 || !slices.Equal(l[1].Supers, d.Supers) || l[1].Super != d.Super || len(l[2].Supers) > 0 || l[2].Super {
			t.Errorf("%q: %v, %v", with, l, p)
		}
	}
}
