package decl_test

import (
	"math/rand"
	"slices"
	"testing"

	"codesearch/api"
	"codesearch/decl"
)

// numbered returns declarations with different IDs, by which they are told from each other, from n on.
func numbered(n int, l ...api.Decl) []api.Decl {
	for i := range l {
		l[i].ID = n + i
	}
	return l
}

// rich is a declaration all of whose fields have values.
var rich = api.Decl{ID: 5, Kind: api.NdClass, Name: "m.A", Parent: 3, Type: "int", Params: []string{"a", "b"}, Supers: []string{"c"}, Super: true, Doc: 2, At: 4, End: 8}

func TestFind(t *testing.T) {
	// P14.3: the first one with the name, whole, or a zero declaration and false.
	l := numbered(1, api.Decl{Name: "m"}, api.Decl{Name: "m.A"}, api.Decl{Name: "m.A.f"}, api.Decl{Name: "m.A"}, api.Decl{Name: "n"}, api.Decl{Name: "n"}, api.Decl{Name: "n"})
	for _, c := range []struct {
		name string
		id   int
	}{{"m", 1}, {"m.A", 2}, {"m.A.f", 3}, {"n", 5}, {"", 0}, {"A", 0}, {"m.", 0}, {"f", 0}, {"m.a", 0}, {"M", 0}, {"m.A.", 0}, {"m.A.f.g", 0}, {"nn", 0}} {
		d, ok := decl.Find(l, c.name)
		if ok != (c.id > 0) || ok && !sameDecl(d, l[c.id-1]) || !ok && !sameDecl(d, api.Decl{}) {
			t.Errorf("Find(%q) = %v, %v", c.name, d, ok)
		}
	}
	if d, ok := decl.Find(numbered(1, api.Decl{Name: "m"}, api.Decl{}, api.Decl{}), ""); !ok || d.ID != 2 {
		t.Errorf("Find of the empty name = %v, %v", d, ok)
	}
	for _, none := range [][]api.Decl{nil, {}} {
		for _, name := range []string{"", "m"} {
			if d, ok := decl.Find(none, name); ok || !sameDecl(d, api.Decl{}) {
				t.Errorf("Find(%q) in no declarations = %v, %v", name, d, ok)
			}
		}
	}
	if d, ok := decl.Find([]api.Decl{rich}, "m.A"); !ok || !sameDecl(d, rich) {
		t.Errorf("Find = %v, %v instead of %v", d, ok, rich)
	}
}

func TestGet(t *testing.T) {
	// P14.3: the first one with the ID, whatever number it is, or a zero declaration and false.
	const most, least = 1<<63 - 1, -1 << 63
	l := []api.Decl{{ID: 3, Name: "a"}, {ID: 1, Name: "b"}, {ID: 3, Name: "c"}, {ID: 0, Name: "d"}, {ID: -1, Name: "e"}, {ID: 0, Name: "f"}, {ID: -1, Name: "g"}, {ID: most, Name: "h"}, {ID: least, Name: "i"}}
	for _, c := range []struct {
		id   int
		name string
	}{{3, "a"}, {1, "b"}, {0, "d"}, {-1, "e"}, {most, "h"}, {least, "i"}, {2, ""}, {4, ""}, {-3, ""}, {most - 1, ""}, {least + 1, ""}} {
		if d, ok := decl.Get(l, c.id); ok != (c.name != "") || d.Name != c.name || !ok && !sameDecl(d, api.Decl{}) {
			t.Errorf("Get(%d) = %v, %v", c.id, d, ok)
		}
	}
	for _, none := range [][]api.Decl{nil, {}, l[:1]} {
		for _, id := range []int{0, 1, -1} {
			if d, ok := decl.Get(none, id); ok || !sameDecl(d, api.Decl{}) {
				t.Errorf("Get(%d) in %v = %v, %v", id, none, d, ok)
			}
		}
	}
	if d, ok := decl.Get([]api.Decl{rich}, 5); !ok || !sameDecl(d, rich) {
		t.Errorf("Get = %v, %v instead of %v", d, ok, rich)
	}
}

func TestSimple(t *testing.T) {
	// P14.4: the part after the last dot.
	for _, c := range []struct{ name, want string }{
		{"", ""}, {"m", "m"}, {"abc", "abc"}, {"m.A", "A"}, {"m.A.n", "n"}, {"a.b.c.def", "def"},
		{".", ""}, {".a", "a"}, {"a.", ""}, {"..", ""}, {"a..b", "b"}, {".a.", ""}, {"m.A.", ""},
		{"a b", "a b"}, {"a/b,c", "a/b,c"}, {"\x00.\xff", "\xff"}, {"é.è", "è"}, {"a\n.b\n", "b\n"},
	} {
		if got := decl.Simple(c.name); got != c.want {
			t.Errorf("Simple(%q) = %q", c.name, got)
		}
	}
	// Every string of a few bytes: its longest end without a dot.
	var each func(s string, n int)
	each = func(s string, n int) {
		want := ""
		for i := len(s); i > 0 && s[i-1] != '.'; i-- {
			want = s[i-1:]
		}
		if got := decl.Simple(s); got != want {
			t.Errorf("Simple(%q) = %q", s, got)
		}
		for _, c := range []string{".", "a", "-", "/"} {
			if n > 0 {
				each(s+c, n-1)
			}
		}
	}
	each("", 6)
}

func TestInside(t *testing.T) {
	// P14.4: all with the parent, in order, each whole.
	l := numbered(1, api.Decl{Parent: 0}, api.Decl{Parent: 1}, api.Decl{Parent: 2}, api.Decl{Parent: 1}, api.Decl{Parent: 0}, api.Decl{Parent: -1}, api.Decl{Parent: 7}, api.Decl{Parent: 1})
	l = append(l, l[1], rich)
	for _, c := range []struct {
		id   int
		want []int
	}{{0, []int{1, 5}}, {1, []int{2, 4, 8, 2}}, {2, []int{3}}, {3, []int{5}}, {-1, []int{6}}, {7, []int{7}}, {4, nil}, {8, nil}, {-2, nil}, {1<<63 - 1, nil}, {-1 << 63, nil}} {
		var ids []int
		inside := decl.Inside(l, c.id)
		for _, d := range inside {
			ids = append(ids, d.ID)
		}
		if !slices.Equal(ids, c.want) {
			t.Errorf("Inside(%d) = %v", c.id, ids)
		}
		if c.id == rich.Parent && !sameDecl(inside[0], rich) {
			t.Errorf("Inside(%d) = %v", c.id, inside)
		}
	}
	for _, none := range [][]api.Decl{nil, {}} {
		if inside := decl.Inside(none, 0); len(inside) > 0 {
			t.Errorf("Inside of no declarations = %v", inside)
		}
	}
	m := parsed(t, "m", 1, "class A { var x: int; func f() { } } var v: int; interface I { func g(); }")
	all, _ := decl.All([]api.Module{m, parsed(t, "n", 2, "var w: int;")})
	for id, want := range map[int]string{0: "m n", 1: "m.A m.v m.I", 2: "m.A.x m.A.f", 6: "m.I.g", 8: "n.w", 3: "", 9: ""} {
		names := ""
		for i, d := range decl.Inside(all, id) {
			names += map[bool]string{true: "", false: " "}[i == 0] + d.Name
		}
		if names != want {
			t.Errorf("Inside(%d) = %s instead of %s", id, names, want)
		}
	}
}

func TestAt(t *testing.T) {
	// P14.5: the last one of the document that contains the offset.
	const most, least = 1<<63 - 1, -1 << 63
	at := func(doc, at, end int) api.Decl { return api.Decl{Doc: doc, At: at, End: end} }
	for _, c := range []struct {
		l        []api.Decl
		doc, off int
		id       int
	}{
		{[]api.Decl{at(1, 3, 6)}, 1, 2, 0},
		{[]api.Decl{at(1, 3, 6)}, 1, 3, 1},
		{[]api.Decl{at(1, 3, 6)}, 1, 5, 1},
		{[]api.Decl{at(1, 3, 6)}, 1, 6, 0},
		{[]api.Decl{at(1, 3, 6)}, 2, 4, 0},
		{[]api.Decl{at(1, 3, 6)}, 0, 4, 0},
		{[]api.Decl{at(1, 3, 4)}, 1, 3, 1},
		// They contain each other, in whatever order.
		{[]api.Decl{at(1, 0, 9), at(1, 3, 6)}, 1, 4, 2},
		{[]api.Decl{at(1, 0, 9), at(1, 3, 6)}, 1, 2, 1},
		{[]api.Decl{at(1, 0, 9), at(1, 3, 6)}, 1, 6, 1},
		{[]api.Decl{at(1, 3, 6), at(1, 0, 9)}, 1, 4, 2},
		{[]api.Decl{at(1, 0, 9), at(1, 0, 9)}, 1, 4, 2},
		{[]api.Decl{at(1, 0, 9), at(1, 0, 9), at(1, 0, 8)}, 1, 8, 2},
		// They overlap.
		{[]api.Decl{at(1, 0, 5), at(1, 3, 8)}, 1, 2, 1},
		{[]api.Decl{at(1, 0, 5), at(1, 3, 8)}, 1, 3, 2},
		{[]api.Decl{at(1, 3, 8), at(1, 0, 5)}, 1, 4, 2},
		{[]api.Decl{at(1, 3, 8), at(1, 0, 5)}, 1, 5, 1},
		// They are empty, or end before they begin.
		{[]api.Decl{at(1, 3, 3)}, 1, 3, 0},
		{[]api.Decl{at(1, 0, 9), at(1, 3, 3)}, 1, 3, 1},
		{[]api.Decl{at(1, 6, 3)}, 1, 4, 0},
		{[]api.Decl{at(1, 6, 3)}, 1, 6, 0},
		{[]api.Decl{at(1, 0, 9), at(1, 6, 3)}, 1, 3, 1},
		{[]api.Decl{at(1, 6, 3)}, 1, 3, 0},
		// Other documents lie between them.
		{[]api.Decl{at(1, 0, 9), at(2, 0, 9), at(1, 3, 6), at(2, 3, 6)}, 1, 4, 3},
		{[]api.Decl{at(1, 0, 9), at(2, 0, 9), at(1, 3, 6), at(2, 3, 6)}, 2, 4, 4},
		{[]api.Decl{at(1, 0, 9), at(2, 0, 9), at(1, 3, 6), at(2, 3, 6)}, 2, 1, 2},
		{[]api.Decl{at(1, 0, 9), at(2, 0, 9), at(1, 3, 6), at(2, 3, 6)}, 3, 4, 0},
		// Documents and offsets are any numbers.
		{[]api.Decl{at(-1, 0, 9), at(0, 0, 9)}, -1, 0, 1},
		{[]api.Decl{at(-1, 0, 9), at(0, 0, 9)}, 0, 0, 2},
		{[]api.Decl{at(least, least, most)}, least, least, 1},
		{[]api.Decl{at(most, least, most)}, most, most - 1, 1},
		{[]api.Decl{at(most, least, most)}, most, most, 0},
		{[]api.Decl{at(1, -4, -2)}, 1, -3, 1},
		{[]api.Decl{at(1, -4, -2)}, 1, -2, 0},
		{nil, 0, 0, 0},
		{[]api.Decl{}, 1, 0, 0},
		{[]api.Decl{at(0, 0, 0)}, 0, 0, 0},
	} {
		d, ok := decl.At(numbered(1, c.l...), c.doc, c.off)
		if ok != (c.id > 0) || ok && !sameDecl(d, c.l[c.id-1]) || !ok && !sameDecl(d, api.Decl{}) {
			t.Errorf("At(%v, %d, %d) = %v, %v", c.l, c.doc, c.off, d, ok)
		}
	}
	if d, ok := decl.At([]api.Decl{rich}, 2, 4); !ok || !sameDecl(d, rich) {
		t.Errorf("At = %v, %v instead of %v", d, ok, rich)
	}
}

func TestMadeLists(t *testing.T) {
	// P14.3, P14.4, P14.5: in lists of any declarations.
	r := rand.New(rand.NewSource(14))
	names := []string{"", "m", "m.A", "A", "m.a"}
	for range 20000 {
		var l []api.Decl
		for range r.Intn(9) {
			l = append(l, api.Decl{ID: r.Intn(6) - 1, Kind: r.Intn(100), Name: names[r.Intn(len(names))], Parent: r.Intn(5) - 1, Doc: r.Intn(3), At: r.Intn(9) - 1, End: r.Intn(9) - 1})
		}
		id, doc, off, name := r.Intn(8)-2, r.Intn(4), r.Intn(11)-2, names[r.Intn(len(names))]
		var found, got, at, inside []api.Decl
		for _, d := range l {
			if d.Name == name && len(found) == 0 {
				found = []api.Decl{d}
			}
			if d.ID == id && len(got) == 0 {
				got = []api.Decl{d}
			}
			if d.Doc == doc && d.At <= off && off <= d.End-1 {
				at = []api.Decl{d}
			}
			if d.Parent == id {
				inside = append(inside, d)
			}
		}
		expectOne(t, l, "Find", found)(decl.Find(l, name))
		expectOne(t, l, "Get", got)(decl.Get(l, id))
		expectOne(t, l, "At", at)(decl.At(l, doc, off))
		if x := decl.Inside(l, id); !sameDecls(x, inside) {
			t.Errorf("Inside(%v, %d) = %v", l, id, x)
		}
	}
}

// expectOne compares a declaration and whether there is one with a list of one or none.
func expectOne(t *testing.T, l []api.Decl, what string, want []api.Decl) func(api.Decl, bool) {
	t.Helper()
	return func(d api.Decl, ok bool) {
		t.Helper()
		if ok != (len(want) > 0) || ok && !sameDecl(d, want[0]) || !ok && !sameDecl(d, api.Decl{}) {
			t.Errorf("%s in %v = %v, %v instead of %v", what, l, d, ok, want)
		}
	}
}

func TestLongLists(t *testing.T) {
	// P14.3, P14.4, P14.5
	var l []api.Decl
	for i := range 200000 {
		l = append(l, api.Decl{ID: i, Name: "m", Parent: i % 3, Doc: 1, At: i, End: i + 2})
	}
	l[150000].Name = "n"
	if d, ok := decl.Find(l, "n"); !ok || d.ID != 150000 {
		t.Errorf("Find = %v, %v", d, ok)
	}
	if d, ok := decl.Get(l, 199999); !ok || d.At != 199999 {
		t.Errorf("Get = %v, %v", d, ok)
	}
	if d, ok := decl.At(l, 1, 100); !ok || d.ID != 100 {
		t.Errorf("At = %v, %v", d, ok)
	}
	if x := decl.Inside(l, 1); len(x) != 66667 || x[66666].ID != 199999 {
		t.Errorf("Inside has %d declarations", len(x))
	}
}
