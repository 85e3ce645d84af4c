package decl_test

import (
	"slices"
	"strconv"
	"strings"
	"testing"

	"codesearch/api"
	"codesearch/decl"
	"codesearch/syntax"
)

// counted returns a module with so many declarations (at most 121), followed by more source.
func counted(t *testing.T, name string, doc, n int, more string) api.Module {
	t.Helper()
	var s strings.Builder
	for i := range n - 1 {
		s.WriteString("var v" + strconv.Itoa(i) + ":A;")
	}
	return parsed(t, name, doc, s.String()+more)
}

// where writes the modules among declarations, each with its document and how many declarations there are up to it, and the problems.
func where(l []api.Decl, problems []api.Problem) string {
	var s []string
	for i, d := range l {
		if d.Kind == api.NdModule {
			s = append(s, d.Name+" "+strconv.Itoa(d.Doc)+" at "+strconv.Itoa(i))
		}
	}
	s = append(s, "all "+strconv.Itoa(len(l)))
	for _, p := range problems {
		s = append(s, "! "+strconv.Itoa(p.Doc)+" "+strconv.Itoa(p.At)+" "+map[api.Errno]string{api.ErrTwice: "twice", api.ErrLong: "long"}[p.Err])
	}
	return strings.Join(s, "; ")
}

func TestNoModule(t *testing.T) {
	// P14.2
	for _, ms := range [][]api.Module{nil, {}} {
		if l, p := decl.All(ms); len(l) > 0 || len(p) > 0 {
			t.Errorf("All of no module: %v, %v", l, p)
		}
	}
}

func TestModules(t *testing.T) {
	// P14.2: IDs and parents go on from one module to the next.
	a := "class A extends B { var x: int; func f(p: C) { } } var v: D;"
	b := "interface A extends B { func f(p: C); }"
	l, p := decl.All([]api.Module{parsed(t, "m", 4, a), parsed(t, "k", 9, b), parsed(t, "e", 2, ""), parsed(t, "l", 4, a)})
	of := func(name string, doc, first int) []api.Decl {
		return []api.Decl{
			{ID: first, Kind: api.NdModule, Name: name, Doc: doc, At: 0, End: len(a)},
			{ID: first + 1, Kind: api.NdClass, Name: name + ".A", Parent: first, Supers: []string{name + ".B"}, Super: true, Doc: doc, At: 0, End: 50},
			{ID: first + 2, Kind: api.NdVar, Name: name + ".A.x", Parent: first + 1, Type: "int", Doc: doc, At: 20, End: 31},
			{ID: first + 3, Kind: api.NdFunc, Name: name + ".A.f", Parent: first + 1, Type: "void", Params: []string{name + ".C"}, Doc: doc, At: 32, End: 48},
			{ID: first + 4, Kind: api.NdVar, Name: name + ".v", Parent: first, Type: name + ".D", Doc: doc, At: 51, End: 60},
		}
	}
	want := append(of("m", 4, 1),
		api.Decl{ID: 6, Kind: api.NdModule, Name: "k", Doc: 9, At: 0, End: len(b)},
		api.Decl{ID: 7, Kind: api.NdInterface, Name: "k.A", Parent: 6, Supers: []string{"k.B"}, Doc: 9, At: 0, End: 39},
		api.Decl{ID: 8, Kind: api.NdFunc, Name: "k.A.f", Parent: 7, Type: "void", Params: []string{"k.C"}, Doc: 9, At: 24, End: 37},
		api.Decl{ID: 9, Kind: api.NdModule, Name: "e", Doc: 2})
	want = append(want, of("l", 4, 10)...)
	if !sameDecls(l, want) || len(p) > 0 {
		t.Errorf("All = %v, %v instead of %v", l, p, want)
	}
}

func TestModulesTwice(t *testing.T) {
	// P14.2: a module whose name an earlier one has is skipped, and the names within it are not looked at.
	one := func(name string, doc int, s string) api.Module { return parsed(t, name, doc, s) }
	twice := "var x: int; var x: int;"
	for _, c := range []struct {
		ms   []api.Module
		want string
	}{
		{[]api.Module{one("a", 1, "var x: int;"), one("a", 2, "var y: int;")}, "a 1 at 0; all 2; ! 2 0 twice"},
		{[]api.Module{one("a", 1, "var x: int;"), one("a", 1, "var x: int;")}, "a 1 at 0; all 2; ! 1 0 twice"},
		{[]api.Module{one("a", 1, ""), one("a", 2, ""), one("a", 3, "")}, "a 1 at 0; all 1; ! 2 0 twice; ! 3 0 twice"},
		{[]api.Module{one("a", 1, ""), one("b", 2, "var x: int;"), one("a", 3, "var x: int;"), one("b", 4, ""), one("c", 5, "")}, "a 1 at 0; b 2 at 1; c 5 at 3; all 4; ! 3 0 twice; ! 4 0 twice"},
		{[]api.Module{one("a", 1, ""), one("A", 2, ""), one("aa", 3, ""), one("_", 4, "")}, "a 1 at 0; A 2 at 1; aa 3 at 2; _ 4 at 3; all 4"},
		// The name of a declaration is not that of a module.
		{[]api.Module{one("a", 1, "class b { var c: int; }"), one("b", 2, ""), one("c", 3, "")}, "a 1 at 0; b 2 at 3; c 3 at 4; all 5"},
		{[]api.Module{one("a", 1, twice), one("a", 2, twice), one("b", 3, twice)}, "a 1 at 0; b 3 at 2; all 4; ! 1 12 twice; ! 2 0 twice; ! 3 12 twice"},
		{[]api.Module{one("a", -5, " "+twice), one("b", 0, twice), one("b", 1<<63-1, twice), one("a", 0, twice), one("c", -1<<63, twice)}, "a -5 at 0; b 0 at 2; c -9223372036854775808 at 4; all 6; ! -5 13 twice; ! 0 12 twice; ! 9223372036854775807 0 twice; ! 0 0 twice; ! -9223372036854775808 12 twice"},
	} {
		if got := where(decl.All(c.ms)); got != c.want {
			t.Errorf("%s instead of %s", got, c.want)
		}
	}
}

func TestTooMany(t *testing.T) {
	// P14.2: MaxDecls declarations, and one more.
	n := func(name string, doc, n int) api.Module { return counted(t, name, doc, n, "") }
	twice := func(name string, doc, n int) api.Module { return counted(t, name, doc, n, "var v0:B;class v1{}") }
	for _, c := range []struct {
		ms   []api.Module
		want string
	}{
		{[]api.Module{n("a", 1, 100), n("b", 2, 100)}, "a 1 at 0; b 2 at 100; all 200"},
		{[]api.Module{n("a", 1, 100), n("b", 2, 101)}, "a 1 at 0; all 100; ! 2 0 long"},
		{[]api.Module{n("a", 1, 101), n("b", 2, 100)}, "a 1 at 0; all 101; ! 2 0 long"},
		{[]api.Module{n("a", 1, 100), n("b", 2, 99), n("c", 3, 1)}, "a 1 at 0; b 2 at 100; c 3 at 199; all 200"},
		{[]api.Module{n("a", 1, 100), n("b", 2, 99), n("c", 3, 2)}, "a 1 at 0; b 2 at 100; all 199; ! 3 0 long"},
		{[]api.Module{n("a", 1, 100), n("b", 2, 100), n("c", 3, 1)}, "a 1 at 0; b 2 at 100; all 200; ! 3 0 long"},
		// Later modules are skipped, also those that would fit, without problems.
		{[]api.Module{n("a", 1, 121), n("b", 2, 80), n("c", 3, 1), n("d", 4, 80)}, "a 1 at 0; all 121; ! 2 0 long"},
		{[]api.Module{n("a", 1, 121), n("b", 2, 80), n("b", 3, 1), n("a", 4, 1), twice("c", 5, 3)}, "a 1 at 0; all 121; ! 2 0 long"},
		// The module that is too long has no other problems.
		{[]api.Module{twice("a", 1, 100), twice("b", 2, 101), twice("c", 3, 5)}, "a 1 at 0; all 100; ! 1 " + strconv.Itoa(where99) + " twice; ! 1 " + strconv.Itoa(where99+9) + " twice; ! 2 0 long"},
		// What is a problem does not count.
		{[]api.Module{n("a", 1, 100), twice("b", 2, 100)}, "a 1 at 0; b 2 at 100; all 200; ! 2 " + strconv.Itoa(where99) + " twice; ! 2 " + strconv.Itoa(where99+9) + " twice"},
		// A module that is skipped for its name does not count, however long it is.
		{[]api.Module{n("a", 1, 121), n("a", 2, 121), n("b", 3, 79)}, "a 1 at 0; b 3 at 121; all 200; ! 2 0 twice"},
		{[]api.Module{n("a", 1, 121), n("a", 2, 80), n("b", 3, 79), n("b", 4, 1), n("a", 5, 1)}, "a 1 at 0; b 3 at 121; all 200; ! 2 0 twice; ! 4 0 twice; ! 5 0 twice"},
		{[]api.Module{n("a", 1, 121), n("a", 2, 80), n("b", 3, 80), n("a", 4, 80)}, "a 1 at 0; all 121; ! 2 0 twice; ! 3 0 long"},
	} {
		if got := where(decl.All(c.ms)); got != c.want {
			t.Errorf("%s instead of %s", got, c.want)
		}
	}
}

// where99 is the length of the source of a module with 100 declarations.
const where99 = 10*len("var v0:A;") + 89*len("var v00:A;")

// joined returns a module with the declarations of two others, which is longer than a source can be.
func joined(a, b api.Module) api.Module {
	a.Tree.Kids = slices.Concat(a.Tree.Kids, b.Tree.Kids)
	return a
}

func TestLongModule(t *testing.T) {
	// P14.2: a module that alone has MaxDecls declarations, or more.
	methods := func(n int) api.Module {
		return parsed(t, "m", 1, "class C{"+strings.Repeat("func f(){}", n)+"}")
	}
	fields := methods(90)
	for i := range fields.Tree.Kids[0].Kids[2].Kids {
		fields.Tree.Kids[0].Kids[2].Kids[i].Text = "g" + strconv.Itoa(i)
	}
	for _, c := range []struct {
		n    int
		want string
	}{
		{199, "a 1 at 0; m 5 at 199; all 200; ! 6 0 twice"},
		{200, "a 1 at 0; all 200; ! 5 0 long"},
		{201, "all 0; ! 1 0 long"},
		{202, "all 0; ! 1 0 long"},
	} {
		// A module of n declarations: the module, variables, the class, and 90 methods.
		m := joined(counted(t, "a", 1, c.n-91, ""), fields)
		if !syntax.Right(m.Tree) {
			t.Fatal("the tree has not the shape of a module")
		}
		if l, p := decl.Of(m); len(l) != c.n || len(p) > 0 || l[c.n-1].ID != c.n || l[c.n-1].Parent != c.n-90 {
			t.Errorf("Of has %d declarations and %v instead of %d", len(l), p, c.n)
		}
		if got := where(decl.All([]api.Module{m, parsed(t, "m", 5, ""), parsed(t, "m", 6, "")})); got != c.want {
			t.Errorf("%d declarations: %s instead of %s", c.n, got, c.want)
		}
	}
	// All problems of a module are there, however many they are.
	if l, p := decl.Of(methods(99)); len(l) != 3 || len(p) != 98 {
		t.Errorf("%d declarations, %d problems", len(l), len(p))
	}
}

func TestManyModules(t *testing.T) {
	// P14.2: the number of modules has no limit of its own.
	var ms []api.Module
	for i := range 150 {
		ms = append(ms, parsed(t, "m"+strconv.Itoa(i), i, "import m0;"))
	}
	l, p := decl.All(ms)
	if len(l) != 150 || len(p) > 0 || l[149].ID != 150 || l[149].Doc != 149 {
		t.Errorf("%d declarations, %v", len(l), p)
	}
	twice := slices.Repeat(ms, 100)
	l, p = decl.All(twice)
	if len(l) != 150 || len(p) != 150*99 {
		t.Errorf("%d declarations, %d problems", len(l), len(p))
	}
}
