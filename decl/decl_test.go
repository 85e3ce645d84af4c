package decl_test

import (
	"reflect"
	"slices"
	"strconv"
	"strings"
	"testing"

	"codesearch/api"
	"codesearch/decl"
	"codesearch/syntax"
)

// parsed returns the module of a source.
func parsed(t *testing.T, name string, doc int, s string) api.Module {
	t.Helper()
	tree, at, err := syntax.Module(s)
	if err != api.OK {
		t.Fatalf("%q is no module: error %d at %d", s, err, at)
	}
	return api.Module{Name: name, Doc: doc, Tree: tree}
}

// plain returns declarations with nil for each empty list.
func plain(l []api.Decl) []api.Decl {
	var all []api.Decl
	for _, d := range l {
		d.Params = append([]string(nil), d.Params...)
		d.Supers = append([]string(nil), d.Supers...)
		all = append(all, d)
	}
	return all
}

func sameDecls(a, b []api.Decl) bool { return reflect.DeepEqual(plain(a), plain(b)) }

func sameDecl(a, b api.Decl) bool { return sameDecls([]api.Decl{a}, []api.Decl{b}) }

// expect compares what Of and All return for a source, in the module m of the document 7, with declarations and problems, whose documents are left out.
func expect(t *testing.T, s string, decls []api.Decl, problems []api.Problem) {
	t.Helper()
	decls, problems = slices.Clone(decls), slices.Clone(problems)
	for i := range decls {
		decls[i].Doc = 7
	}
	for i := range problems {
		problems[i].Doc = 7
	}
	m := parsed(t, "m", 7, s)
	l, p := decl.Of(m)
	if !sameDecls(l, decls) || !slices.Equal(p, problems) {
		t.Errorf("Of %q:\n%v, %v instead of\n%v, %v", s, l, p, decls, problems)
	}
	if l, p := decl.All([]api.Module{m}); !sameDecls(l, decls) || !slices.Equal(p, problems) {
		t.Errorf("All of %q:\n%v, %v instead of\n%v, %v", s, l, p, decls, problems)
	}
}

// brief writes declarations as their IDs, parents, kinds and names, and then the offsets of problems.
func brief(l []api.Decl, problems []api.Problem) string {
	kinds := map[int]string{api.NdModule: "module", api.NdClass: "class", api.NdInterface: "interface", api.NdFunc: "func", api.NdVar: "var"}
	var s []string
	for _, d := range l {
		s = append(s, strings.Join([]string{strconv.Itoa(d.ID), strconv.Itoa(d.Parent), kinds[d.Kind], d.Name}, " "))
	}
	for _, p := range problems {
		s = append(s, "! "+strconv.Itoa(p.At))
		if p.Err != api.ErrTwice {
			s = append(s, "with another error")
		}
	}
	return strings.Join(s, "; ")
}

func TestExamples(t *testing.T) {
	// P14.1, P14.4
	expect(t, "class A { var n: int; func f(x: A, y: b.C): bool { } }", []api.Decl{
		{ID: 1, Kind: api.NdModule, Name: "m", At: 0, End: 54},
		{ID: 2, Kind: api.NdClass, Name: "m.A", Parent: 1, At: 0, End: 54},
		{ID: 3, Kind: api.NdVar, Name: "m.A.n", Parent: 2, Type: "int", At: 10, End: 21},
		{ID: 4, Kind: api.NdFunc, Name: "m.A.f", Parent: 2, Type: "bool", Params: []string{"m.A", "b.C"}, At: 22, End: 52},
	}, nil)
	expect(t, "var a: int; func a() { }", []api.Decl{
		{ID: 1, Kind: api.NdModule, Name: "m", At: 0, End: 24},
		{ID: 2, Kind: api.NdVar, Name: "m.a", Parent: 1, Type: "int", At: 0, End: 11},
	}, []api.Problem{{At: 12, Err: api.ErrTwice}})
	expect(t, "class D extends A implements I, k.J { }", []api.Decl{
		{ID: 1, Kind: api.NdModule, Name: "m", At: 0, End: 39},
		{ID: 2, Kind: api.NdClass, Name: "m.D", Parent: 1, Supers: []string{"m.A", "m.I", "k.J"}, Super: true, At: 0, End: 39},
	}, nil)
	if got := decl.Simple("m.A.n"); got != "n" {
		t.Errorf("Simple(m.A.n) = %q", got)
	}
	if got := decl.Simple("m"); got != "m" {
		t.Errorf("Simple(m) = %q", got)
	}
}

func TestKinds(t *testing.T) {
	// P14.1: each kind of declarations alone, with its At and End and no field that it does not use.
	module := func(end int) api.Decl { return api.Decl{ID: 1, Kind: api.NdModule, Name: "m", End: end} }
	for _, c := range []struct {
		source string
		decls  []api.Decl
	}{
		{"", []api.Decl{module(0)}},
		{" \n// end", []api.Decl{module(8)}},
		{"import a;", []api.Decl{module(9)}},
		{"import a; import a; import m;", []api.Decl{module(29)}},
		{" class A { } ", []api.Decl{module(13), {ID: 2, Kind: api.NdClass, Name: "m.A", Parent: 1, At: 1, End: 12}}},
		{"//\ninterface I{}//", []api.Decl{module(18), {ID: 2, Kind: api.NdInterface, Name: "m.I", Parent: 1, At: 3, End: 16}}},
		{"\tfunc f(){}\n", []api.Decl{module(12), {ID: 2, Kind: api.NdFunc, Name: "m.f", Parent: 1, Type: "void", At: 1, End: 11}}},
		{"  var v : A . B ; ", []api.Decl{module(18), {ID: 2, Kind: api.NdVar, Name: "m.v", Parent: 1, Type: "A.B", At: 2, End: 17}}},
		{"import v; var v:v=v;", []api.Decl{module(20), {ID: 2, Kind: api.NdVar, Name: "m.v", Parent: 1, Type: "m.v", At: 10, End: 20}}},
		{"class A{ var v:int; }", []api.Decl{module(21), {ID: 2, Kind: api.NdClass, Name: "m.A", Parent: 1, At: 0, End: 21}, {ID: 3, Kind: api.NdVar, Name: "m.A.v", Parent: 2, Type: "int", At: 9, End: 19}}},
		{"class A{ func f(){} }", []api.Decl{module(21), {ID: 2, Kind: api.NdClass, Name: "m.A", Parent: 1, At: 0, End: 21}, {ID: 3, Kind: api.NdFunc, Name: "m.A.f", Parent: 2, Type: "void", At: 9, End: 19}}},
		{"interface I{ func f(); }", []api.Decl{module(24), {ID: 2, Kind: api.NdInterface, Name: "m.I", Parent: 1, At: 0, End: 24}, {ID: 3, Kind: api.NdFunc, Name: "m.I.f", Parent: 2, Type: "void", At: 13, End: 22}}},
		{"interface I extends J{ func f(a:int):b.c; }", []api.Decl{module(43), {ID: 2, Kind: api.NdInterface, Name: "m.I", Parent: 1, Supers: []string{"m.J"}, At: 0, End: 43}, {ID: 3, Kind: api.NdFunc, Name: "m.I.f", Parent: 2, Type: "b.c", Params: []string{"int"}, At: 23, End: 41}}},
	} {
		expect(t, c.source, c.decls, nil)
	}
}

func TestSeveral(t *testing.T) {
	// P14.1: several declarations, in preorder, with their IDs and parents.
	for _, c := range []struct{ source, want string }{
		{"class A { } class B { } class C { }", "1 0 module m; 2 1 class m.A; 3 1 class m.B; 4 1 class m.C"},
		{"interface A { } interface B { }", "1 0 module m; 2 1 interface m.A; 3 1 interface m.B"},
		{"func b() { } func a() { }", "1 0 module m; 2 1 func m.b; 3 1 func m.a"},
		{"var z: int; var y: int; var x: int;", "1 0 module m; 2 1 var m.z; 3 1 var m.y; 4 1 var m.x"},
		{"import x; var v: A; class A { } interface I { } func f() { } class B { }", "1 0 module m; 2 1 var m.v; 3 1 class m.A; 4 1 interface m.I; 5 1 func m.f; 6 1 class m.B"},
		{"class B { func g() { } var b: int; func f() { } var a: int; } var v: int;", "1 0 module m; 2 1 class m.B; 3 2 func m.B.g; 4 2 var m.B.b; 5 2 func m.B.f; 6 2 var m.B.a; 7 1 var m.v"},
		{"interface I { func g(); func f(); } class A { func f() { } } interface J { func f(); }", "1 0 module m; 2 1 interface m.I; 3 2 func m.I.g; 4 2 func m.I.f; 5 1 class m.A; 6 5 func m.A.f; 7 1 interface m.J; 8 7 func m.J.f"},
		// Parameters and variables in blocks are no declarations, whatever block it is.
		{"func f(p: int, q: A) { var x: int; { var y: int; } if (x) { var z: int; } else { var u: int; } while (x) { var v: int; { var w: int; } } }", "1 0 module m; 2 1 func m.f"},
		{"class A { func f(f: A, A: int) { var f: int; var f: int; } func g(f: int, f: int) { } }", "1 0 module m; 2 1 class m.A; 3 2 func m.A.f; 4 2 func m.A.g"},
		{"interface I { func f(f: I, f: I); }", "1 0 module m; 2 1 interface m.I; 3 2 func m.I.f"},
		{"func f(v: int) { var w: int; } var v: int; var w: int;", "1 0 module m; 2 1 func m.f; 3 1 var m.v; 4 1 var m.w"},
		// Names of basic types are names.
		{"class int { var int: int; } var bool: bool; func void(): void { } interface string { }", "1 0 module m; 2 1 class m.int; 3 2 var m.int.int; 4 1 var m.bool; 5 1 func m.void; 6 1 interface m.string"},
	} {
		l, p := decl.Of(parsed(t, "m", 7, c.source))
		if got := brief(l, p); got != c.want {
			t.Errorf("Of %q:\n%s instead of\n%s", c.source, got, c.want)
		}
	}
}

func TestTwice(t *testing.T) {
	// P14.1: a name that is declared already is a problem, and nothing of the later declaration is declared.
	for _, c := range []struct{ source, want string }{
		{"var a: int; var b: int; var a: bool; var c: int;", "1 0 module m; 2 1 var m.a; 3 1 var m.b; 4 1 var m.c; ! 24"},
		{"var a: int; var a: int; var a: int;", "1 0 module m; 2 1 var m.a; ! 12; ! 24"},
		{"func b() { } var a: int; func a() { } class b { }", "1 0 module m; 2 1 func m.b; 3 1 var m.a; ! 25; ! 38"},
		{"class A { var x: int; } class A { var y: int; func f() { } } class B { var y: int; }", "1 0 module m; 2 1 class m.A; 3 2 var m.A.x; 4 1 class m.B; 5 4 var m.B.y; ! 24"},
		{"class A { var x: int; } interface A { func f(); func x(); } interface B { func f(); }", "1 0 module m; 2 1 class m.A; 3 2 var m.A.x; 4 1 interface m.B; 5 4 func m.B.f; ! 24"},
		// What is not declared has no names of its own: nothing is twice in it.
		{"var A: int; class A { var x: int; var x: int; var A: int; } class B { var x: int; }", "1 0 module m; 2 1 var m.A; 3 1 class m.B; 4 3 var m.B.x; ! 12"},
		{"class A { } class A { var B: int; } class B { }", "1 0 module m; 2 1 class m.A; 3 1 class m.B; ! 12"},
		// Within a class or an interface.
		{"class A { var x: int; func x() { } var y: int; }", "1 0 module m; 2 1 class m.A; 3 2 var m.A.x; 4 2 var m.A.y; ! 22"},
		{"class A { func x() { } func x(a: int) { } var x: int; var z: int; } var z: int;", "1 0 module m; 2 1 class m.A; 3 2 func m.A.x; 4 2 var m.A.z; 5 1 var m.z; ! 23; ! 42"},
		{"interface A { func f(); func g(); func f(a: int); func g(); func h(); }", "1 0 module m; 2 1 interface m.A; 3 2 func m.A.f; 4 2 func m.A.g; 5 2 func m.A.h; ! 34; ! 50"},
		{"class A { var x: int; var x: int; } class B { var y: int; var y: int; } class B { } var A: int;", "1 0 module m; 2 1 class m.A; 3 2 var m.A.x; 4 1 class m.B; 5 4 var m.B.y; ! 22; ! 58; ! 72; ! 84"},
		// One name in declarations that contain each other, or lie beside each other.
		{"class A { var A: int; func B() { } } class B { func A() { } var m: int; } interface C { func A(); func C(); }", "1 0 module m; 2 1 class m.A; 3 2 var m.A.A; 4 2 func m.A.B; 5 1 class m.B; 6 5 func m.B.A; 7 5 var m.B.m; 8 1 interface m.C; 9 8 func m.C.A; 10 8 func m.C.C"},
		{"var m: int; class M { } class m { }", "1 0 module m; 2 1 var m.m; 3 1 class m.M; ! 24"},
		{"class m { var m: int; func n() { } } func n() { }", "1 0 module m; 2 1 class m.m; 3 2 var m.m.m; 4 2 func m.m.n; 5 1 func m.n"},
		// An import has no name that could be twice.
		{"import a; var a: int; class A { var a: int; }", "1 0 module m; 2 1 var m.a; 3 1 class m.A; 4 3 var m.A.a"},
		// IDs and parents behind a problem.
		{"var a: int; class a { var x: int; } class B { var x: int; var x: int; var y: int; } func B() { } func c() { }", "1 0 module m; 2 1 var m.a; 3 1 class m.B; 4 3 var m.B.x; 5 3 var m.B.y; 6 1 func m.c; ! 12; ! 58; ! 84"},
	} {
		l, p := decl.Of(parsed(t, "m", 7, c.source))
		if got := brief(l, p); got != c.want {
			t.Errorf("Of %q:\n%s instead of\n%s", c.source, got, c.want)
		}
	}
}

func TestKindsBesideEachOther(t *testing.T) {
	// P14.1: one name for a declaration of each kind and a later one of each kind, also with others around them.
	sources := []string{"class a{var x:int;func y(){}}", "interface a{func x();func y();}", "func a(x:int){var y:int;}", "var a:int;"}
	names := []string{"1 class m.a; 3 2 var m.a.x; 4 2 func m.a.y", "1 interface m.a; 3 2 func m.a.x; 4 2 func m.a.y", "1 func m.a", "1 var m.a"}
	for i, first := range sources {
		for k, second := range sources {
			id := strconv.Itoa(strings.Count(names[i], ";") + 3)
			want := "1 0 module m; 2 " + names[i] + "; " + id + " 1 var m.b; ! " + strconv.Itoa(len(first))
			l, p := decl.Of(parsed(t, "m", 7, first+second+"var b:int;"))
			if got := brief(l, p); got != want {
				t.Errorf("kinds %d and %d: %s instead of %s", i, k, got, want)
			}
		}
	}
	sources = []string{"func a(){}", "var a:int;"}
	for i, first := range sources {
		for _, second := range sources {
			want := "1 0 module m; 2 1 class m.C; 3 2 " + []string{"func", "var"}[i] + " m.C.a; 4 2 var m.C.b; ! 18"
			l, p := decl.Of(parsed(t, "m", 7, "class C{"+first+second+"var b:int;}"))
			if got := brief(l, p); got != want {
				t.Errorf("members %q and %q: %s instead of %s", first, second, got, want)
			}
		}
	}
}

func TestDocs(t *testing.T) {
	// P14.1: every declaration and every problem has the document of the module, whatever number it is.
	for _, doc := range []int{1, 7, api.MaxID, api.MaxID + 1, 0, -1, 1<<63 - 1, -1 << 63} {
		m := parsed(t, "m", doc, "class A { var x: int; func x() { } } interface I { func f(); } func g() { } var A: int;")
		for _, of := range []func() ([]api.Decl, []api.Problem){
			func() ([]api.Decl, []api.Problem) { return decl.Of(m) },
			func() ([]api.Decl, []api.Problem) { return decl.All([]api.Module{m}) },
		} {
			l, p := of()
			if len(l) != 6 || len(p) != 2 {
				t.Fatalf("document %d: %v, %v", doc, l, p)
			}
			for _, d := range l {
				if d.Doc != doc {
					t.Errorf("document %d: %v", doc, d)
				}
			}
			for _, q := range p {
				if q.Doc != doc || q.Err != api.ErrTwice {
					t.Errorf("document %d: %v", doc, q)
				}
			}
		}
	}
}
