package decl_test

import (
	"math/rand"
	"slices"
	"strings"
	"testing"

	"codesearch/api"
	"codesearch/decl"
	"codesearch/syntax"
)

// A maker writes the source of a module, and on the way the declarations and problems that the module has.
type maker struct {
	*rand.Rand
	name     string
	doc      int
	source   []byte
	decls    []api.Decl
	problems []api.Problem
}

// A place is where declarations are: the index of the one that they are in, or -1 if that is not declared, and the names that are declared there.
type place struct {
	index int
	names []string
}

func (m *maker) one(l ...string) string { return l[m.Intn(len(l))] }

// word writes a token, behind blanks or a comment, and returns where it begins.
func (m *maker) word(s string) int {
	m.source = append(m.source, m.one(" ", "\n", "\t", " // class Z { }\n")...)
	m.source = append(m.source, s...)
	return len(m.source) - len(s)
}

func (m *maker) words(l ...string) {
	for _, s := range l {
		m.word(s)
	}
}

func (m *maker) anyName() string {
	if m.Intn(2) == 0 {
		return string(rune('a'+m.Intn(26))) + m.one("", "1", "2", "3")
	}
	return m.one("a", "b", "A", "B", "m", "x", "_", "int", "void")
}

// typeName writes a type and returns what it is.
func (m *maker) typeName() string {
	first := m.one("a", "A", "m", "n", "int", "bool", "string", "void", "Int", "voids")
	m.word(first)
	if m.Intn(3) == 0 {
		second := m.one("A", "m", "int", "x")
		m.words(".", second)
		return first + "." + second
	}
	if slices.Contains([]string{"int", "bool", "string", "void"}, first) {
		return first
	}
	return m.name + "." + first
}

// typeNames writes one or more types with a word before them.
func (m *maker) typeNames(before string) []string {
	m.word(before)
	l := []string{m.typeName()}
	for m.Intn(2) == 0 {
		m.word(",")
		l = append(l, m.typeName())
	}
	return l
}

// begin notes that a declaration begins, or that it is a problem, and returns the place for those within it.
func (m *maker) begin(within *place, kind int, name string, at int) *place {
	if within.index < 0 {
		return &place{index: -1}
	}
	if slices.Contains(within.names, name) {
		m.problems = append(m.problems, api.Problem{Doc: m.doc, At: at, Err: api.ErrTwice})
		return &place{index: -1}
	}
	within.names = append(within.names, name)
	parent := m.decls[within.index]
	m.decls = append(m.decls, api.Decl{ID: len(m.decls) + 1, Kind: kind, Name: parent.Name + "." + name, Parent: parent.ID, Doc: m.doc, At: at})
	return &place{index: len(m.decls) - 1}
}

// end notes that a declaration ends here, with values of its other fields.
func (m *maker) end(p *place, d api.Decl) {
	if p.index >= 0 {
		all := &m.decls[p.index]
		all.Type, all.Params, all.Supers, all.Super, all.End = d.Type, d.Params, d.Supers, d.Super, len(m.source)
	}
}

func (m *maker) variable(within *place) {
	name := m.anyName()
	p := m.begin(within, api.NdVar, name, m.word("var"))
	m.words(name, ":")
	d := api.Decl{Type: m.typeName()}
	if m.Intn(3) == 0 {
		m.words("=", m.one("1", "a", "null", "\"var a: int;\""))
	}
	m.word(";")
	m.end(p, d)
}

// block writes a block with statements, among them variables, which are no declarations.
func (m *maker) block(levels int) {
	m.word("{")
	for range m.Intn(3) {
		kind := m.Intn(5)
		if levels == 0 && kind < 3 {
			kind = 3
		}
		switch kind {
		case 0:
			m.block(levels - 1)
		case 1:
			m.words("if", "(", "a", ")")
			m.block(levels - 1)
			m.word("else")
			m.block(levels - 1)
		case 2:
			m.words("while", "(", "a", ")")
			m.block(levels - 1)
		case 3:
			m.variable(&place{index: -1})
		case 4:
			m.words("f", "(", "a", ")", ";")
		}
	}
	m.word("}")
}

func (m *maker) function(within *place, block bool) {
	name := m.anyName()
	p := m.begin(within, api.NdFunc, name, m.word("func"))
	m.words(name, "(")
	d := api.Decl{Type: "void"}
	for i := range m.Intn(4) {
		if i > 0 {
			m.word(",")
		}
		m.words(m.anyName(), ":")
		d.Params = append(d.Params, m.typeName())
	}
	m.word(")")
	if m.Intn(2) == 0 {
		m.word(":")
		d.Type = m.typeName()
	}
	if block {
		m.block(2)
	} else {
		m.word(";")
	}
	m.end(p, d)
}

func (m *maker) class(within *place) {
	name := m.anyName()
	p := m.begin(within, api.NdClass, name, m.word("class"))
	m.word(name)
	var d api.Decl
	if m.Intn(2) == 0 {
		m.word("extends")
		d.Supers, d.Super = []string{m.typeName()}, true
	}
	if m.Intn(2) == 0 {
		d.Supers = append(d.Supers, m.typeNames("implements")...)
	}
	m.word("{")
	for range m.Intn(4) {
		if m.Intn(2) == 0 {
			m.variable(p)
		} else {
			m.function(p, true)
		}
	}
	m.word("}")
	m.end(p, d)
}

func (m *maker) interfaces(within *place) {
	name := m.anyName()
	p := m.begin(within, api.NdInterface, name, m.word("interface"))
	m.word(name)
	var d api.Decl
	if m.Intn(2) == 0 {
		d.Supers = m.typeNames("extends")
	}
	m.word("{")
	for range m.Intn(4) {
		m.function(p, false)
	}
	m.word("}")
	m.end(p, d)
}

// make returns a module, its declarations and its problems.
func (m *maker) make(t *testing.T, name string, doc, most int) (api.Module, []api.Decl, []api.Problem) {
	t.Helper()
	m.name, m.doc, m.source, m.problems = name, doc, nil, nil
	m.decls = []api.Decl{{ID: 1, Kind: api.NdModule, Name: name, Doc: doc}}
	p := &place{}
	for m.Intn(3) == 0 {
		m.words("import", m.anyName(), ";")
	}
	for range m.Intn(most + 1) {
		switch m.Intn(4) {
		case 0:
			m.class(p)
		case 1:
			m.interfaces(p)
		case 2:
			m.function(p, true)
		case 3:
			m.variable(p)
		}
	}
	if len(m.source) > 0 && m.Intn(2) == 0 {
		m.source = append(m.source, " // end"...)
	}
	m.end(p, api.Decl{})
	tree, at, err := syntax.Module(string(m.source))
	if err != api.OK && err != api.ErrLong {
		t.Fatalf("%s: error %d at %d", m.source, err, at)
	}
	if err != api.OK {
		return m.make(t, name, doc, most)
	}
	return api.Module{Name: name, Doc: doc, Tree: tree}, m.decls, m.problems
}

func TestMade(t *testing.T) {
	// P14.1
	m := &maker{Rand: rand.New(rand.NewSource(141))}
	most := 0
	for range 5000 {
		module, decls, problems := m.make(t, m.one("m", "a", "A", "int"), m.Intn(5)-1, 9)
		l, p := decl.Of(module)
		if !sameDecls(l, decls) || !slices.Equal(p, problems) {
			t.Fatalf("Of %s:\n%v, %v instead of\n%v, %v", m.source, l, p, decls, problems)
		}
		most = max(most, len(l))
	}
	if most < 15 {
		t.Errorf("no module has more than %d declarations", most)
	}
}

// several returns modules, and the declarations and problems that All has to return for them, by the definition.
func (m *maker) several(t *testing.T) ([]api.Module, []api.Decl, []api.Problem) {
	t.Helper()
	var ms []api.Module
	var all []api.Decl
	var problems []api.Problem
	full := false
	for doc := range m.Intn(25) {
		module, decls, p := m.make(t, m.one("m", "a", "A", "int")+strings.Repeat("x", m.Intn(8)), doc, 20)
		twice := slices.ContainsFunc(all, func(d api.Decl) bool { return d.Kind == api.NdModule && d.Name == module.Name })
		ms = append(ms, module)
		if full {
			continue
		}
		switch {
		case twice:
			problems = append(problems, api.Problem{Doc: doc, Err: api.ErrTwice})
		case len(all)+len(decls) > 200:
			problems = append(problems, api.Problem{Doc: doc, Err: api.ErrLong})
			full = true
		default:
			last := len(all)
			for _, d := range decls {
				d.ID += last
				if d.Kind != api.NdModule {
					d.Parent += last
				}
				all = append(all, d)
			}
			problems = append(problems, p...)
		}
	}
	return ms, all, problems
}

func TestMadeAll(t *testing.T) {
	// P14.2
	m := &maker{Rand: rand.New(rand.NewSource(142))}
	full := 0
	for range 400 {
		ms, decls, problems := m.several(t)
		l, p := decl.All(ms)
		if !sameDecls(l, decls) || !slices.Equal(p, problems) {
			t.Fatalf("All:\n%v, %v instead of\n%v, %v", l, p, decls, problems)
		}
		if slices.ContainsFunc(p, func(q api.Problem) bool { return q.Err == api.ErrLong }) {
			full++
		}
	}
	if full < 20 || full > 380 {
		t.Errorf("%d of 400 have too many declarations", full)
	}
}

func TestUnique(t *testing.T) {
	// P14.6
	m := &maker{Rand: rand.New(rand.NewSource(146))}
	for range 400 {
		ms, _, _ := m.several(t)
		l, _ := decl.All(ms)
		names, ids := map[string]bool{}, map[int]int{}
		for i, d := range l {
			if _, ok := ids[d.ID]; ok || names[d.Name] || d.ID != i+1 {
				t.Fatalf("%v is not the only one in %v", d, l)
			}
			names[d.Name], ids[d.ID] = true, i
			if d.Parent == 0 {
				if d.Kind != api.NdModule || strings.Contains(d.Name, ".") {
					t.Fatalf("%v in %v has no parent", d, l)
				}
				continue
			}
			k, ok := ids[d.Parent]
			if !ok || k >= i {
				t.Fatalf("the parent of %v does not come before it in %v", d, l)
			}
			simple := decl.Simple(d.Name)
			if p := l[k]; d.At < p.At || d.End > p.End || d.At >= d.End || d.Doc != p.Doc || d.Name != p.Name+"."+simple || simple == "" {
				t.Fatalf("%v is not in %v", d, p)
			}
		}
	}
}

func TestWhole(t *testing.T) {
	// P14.7
	m := &maker{Rand: rand.New(rand.NewSource(147))}
	for range 2000 {
		module, _, _ := m.make(t, "m", m.Intn(9), 12)
		l, p := decl.Of(module)
		all, problems := decl.All([]api.Module{module})
		if !sameDecls(l, all) || !slices.Equal(p, problems) {
			t.Fatalf("All of %s:\n%v, %v instead of\n%v, %v", m.source, all, problems, l, p)
		}
	}
}

func TestSearch(t *testing.T) {
	// P14.8
	m := &maker{Rand: rand.New(rand.NewSource(148))}
	for range 200 {
		ms, _, _ := m.several(t)
		l, _ := decl.All(ms)
		children := 0
		for _, d := range l {
			if f, ok := decl.Find(l, d.Name); !ok || !sameDecl(f, d) {
				t.Fatalf("Find(%s) in %v = %v, %v", d.Name, l, f, ok)
			}
			if g, ok := decl.Get(l, d.ID); !ok || !sameDecl(g, d) {
				t.Fatalf("Get(%d) in %v = %v, %v", d.ID, l, g, ok)
			}
			children += len(decl.Inside(l, d.ID))
		}
		if children+len(decl.Inside(l, 0)) != len(l) {
			t.Fatalf("%d declarations lie in others of %v", children, l)
		}
	}
}

func TestInnermost(t *testing.T) {
	// P14.5: in what All returns, the last declaration that contains an offset lies in all others that do.
	m := &maker{Rand: rand.New(rand.NewSource(145))}
	for range 60 {
		ms, _, _ := m.several(t)
		l, _ := decl.All(ms)
		for _, module := range ms {
			for off := -1; off <= module.Tree.End; off++ {
				expectOne(t, l, "At", innermost(l, module.Doc, off))(decl.At(l, module.Doc, off))
			}
		}
	}
}

// innermost returns the declaration that contains an offset and no other one that does, in a list or none.
func innermost(l []api.Decl, doc, off int) []api.Decl {
	var inner []api.Decl
	levels := -1
	for _, d := range l {
		if d.Doc == doc && d.At <= off && off < d.End && strings.Count(d.Name, ".") > levels {
			inner, levels = []api.Decl{d}, strings.Count(d.Name, ".")
		}
	}
	return inner
}
