package decl_test

import (
	"math/rand"
	"reflect"
	"slices"
	"strings"
	"testing"

	"codesearch/api"
	"codesearch/decl"
)

// everything is a source with every kind of declarations.
const everything = "import a; class A extends B implements I, k.J { var n: int = 1; func f(x: A, y: b.C): bool { var z: int; } } interface I extends J, K { func g(p: I): A; func h(); } func f() { } var v: A; var v: B;"

// copyOf returns a tree with memory of its own.
func copyOf(n api.Node) api.Node {
	kids := make([]api.Node, 0, len(n.Kids))
	for _, k := range n.Kids {
		kids = append(kids, copyOf(k))
	}
	n.Kids = kids
	return n
}

// copies returns declarations with memory of their own.
func copies(l []api.Decl) []api.Decl {
	l = slices.Clone(l)
	for i := range l {
		l[i].Params, l[i].Supers = slices.Clone(l[i].Params), slices.Clone(l[i].Supers)
	}
	return l
}

// overwrite changes all that a list of declarations refers to, up to its capacity.
func overwrite(l []api.Decl) {
	for i := range l {
		for _, s := range [][]string{l[i].Params, l[i].Supers} {
			for k := range s[:cap(s)] {
				s[:cap(s)][k] = "changed"
			}
		}
	}
	for i := range l[:cap(l)] {
		l[:cap(l)][i] = api.Decl{Name: "changed"}
	}
}

func TestUnchanged(t *testing.T) {
	// P14.1, P14.2, P14.3, P14.4, P14.5: arguments stay as they are.
	m := parsed(t, "m", 7, everything)
	before := copyOf(m.Tree)
	ms := []api.Module{m, parsed(t, "n", 8, everything), m}
	modules := slices.Clone(ms)
	for range 2 {
		l, p := decl.Of(m)
		overwrite(l)
		clear(p)
		l, p = decl.All(ms)
		overwrite(l)
		clear(p)
	}
	if !reflect.DeepEqual(copyOf(m.Tree), before) || !reflect.DeepEqual(ms, modules) {
		t.Error("Of or All changed a module")
	}
	l, _ := decl.All(ms)
	l = append(l, rich)
	kept := copies(l)
	for _, d := range kept {
		decl.Find(l, d.Name)
		decl.Get(l, d.ID)
		decl.Inside(l, d.ID)
		decl.At(l, d.Doc, d.At)
	}
	if !reflect.DeepEqual(l, kept) {
		t.Error("a search changed its list")
	}
}

func TestNewMemory(t *testing.T) {
	// P14.3, P14.4, P14.5: results share no memory with the list.
	shared := []string{"a", "b", "c"}
	first := api.Decl{ID: 1, Name: "x", Parent: 9, Params: shared[:2], Supers: shared[:1], Doc: 1, At: 0, End: 9}
	l := []api.Decl{first, {ID: 2, Parent: 9, Params: shared, Supers: shared}}
	kept := copies(l)
	for _, search := range []func() []api.Decl{
		func() []api.Decl { d, _ := decl.Find(l, "x"); return []api.Decl{d} },
		func() []api.Decl { d, _ := decl.Get(l, 1); return []api.Decl{d} },
		func() []api.Decl { d, _ := decl.At(l, 1, 3); return []api.Decl{d} },
		func() []api.Decl { return decl.Inside(l, 9) },
	} {
		found := search()
		if len(found) == 0 || !sameDecl(found[0], first) {
			t.Fatalf("found %v", found)
		}
		overwrite(found)
		if !reflect.DeepEqual(l, kept) || !slices.Equal(shared, []string{"a", "b", "c"}) {
			t.Fatalf("the list is %v instead of %v", l, kept)
		}
	}
	// Nor do the lists within one result share it.
	m := parsed(t, "m", 7, everything)
	of, _ := decl.Of(m)
	all, _ := decl.All([]api.Module{m, parsed(t, "n", 7, everything)})
	for _, result := range [][]api.Decl{decl.Inside(l, 9), of, all} {
		lists := listsOf(result)
		for i, s := range lists {
			for k := range s[:cap(s)] {
				s[:cap(s)][k] = "changed"
			}
			for _, other := range lists[i+1:] {
				if slices.Contains(other[:cap(other)], "changed") {
					t.Fatal("two lists of one result share memory")
				}
			}
		}
	}
}

func listsOf(l []api.Decl) [][]string {
	var lists [][]string
	for _, d := range l {
		lists = append(lists, d.Params, d.Supers)
	}
	return lists
}

func TestSameAgain(t *testing.T) {
	// P14.1, P14.2: the result depends on the modules alone.
	m := &maker{Rand: rand.New(rand.NewSource(1))}
	ms, _, _ := m.several(t)
	for len(ms) < 10 {
		ms, _, _ = m.several(t)
	}
	l, p := decl.All(ms)
	for range 50 {
		again, problems := decl.All(ms)
		if !sameDecls(l, again) || !slices.Equal(p, problems) {
			t.Fatal("All returned something else")
		}
	}
}

func TestInvalidModules(t *testing.T) {
	// P14.1, P14.2: whatever the tree and the name, the functions end without a panic.
	try := func(m api.Module) {
		decl.Of(m)
		decl.All([]api.Module{m, m, {}})
	}
	tree := parsed(t, "m", 7, everything).Tree
	for _, name := range []string{"", ".", "a.b", "class", "1", "\x00", strings.Repeat("x", 1000)} {
		try(api.Module{Name: name, Tree: tree})
	}
	try(api.Module{})
	// Every node with another kind, without some of its kids, or with more of them.
	var each func(n *api.Node)
	each = func(n *api.Node) {
		old := *n
		for kind := -1; kind <= api.NdMany+1; kind++ {
			n.Kind = kind
			try(api.Module{Name: "m", Tree: tree})
		}
		*n = old
		for k := range old.Kids {
			n.Kids = slices.Concat(old.Kids[:k], old.Kids[k+1:])
			try(api.Module{Name: "m", Tree: tree})
			n.Kids = old.Kids[:k]
			try(api.Module{Name: "m", Tree: tree})
			n.Kids = slices.Concat(old.Kids[:k], []api.Node{old}, old.Kids[k:])
			try(api.Module{Name: "m", Tree: tree})
		}
		n.Kids = []api.Node{{}, {}, {}}
		try(api.Module{Name: "m", Tree: tree})
		*n = old
		for k := range n.Kids {
			each(&n.Kids[k])
		}
	}
	tree = copyOf(tree)
	each(&tree)
}

func TestEndlessTrees(t *testing.T) {
	// P14.1, P14.2: trees that contain themselves, and deep ones.
	for kind := 0; kind <= api.NdMany; kind++ {
		kids := make([]api.Node, 3)
		for i := range kids {
			kids[i] = api.Node{Kind: kind, Text: string(rune('a' + i)), Kids: kids}
		}
		kids[1].Kind = api.NdClass
		kids[2].Kind = api.NdInterface
		m := api.Module{Name: "m", Tree: api.Node{Kind: kind, Kids: kids}}
		if l, _ := decl.Of(m); len(l) > 20 {
			t.Errorf("%d declarations", len(l))
		}
		decl.All([]api.Module{m, m})
		deep := api.Node{Kind: kind}
		for range 1 << 16 {
			deep = api.Node{Kind: kind, Text: "a", Kids: []api.Node{deep}}
		}
		decl.All([]api.Module{{Name: "m", Tree: deep}})
	}
}
