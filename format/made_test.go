package format_test

import (
	"math/rand"
	"slices"
	"strings"
	"testing"

	"codesearch/api"
	"codesearch/format"
	"codesearch/syntax"
	"codesearch/token"
)

// A maker makes trees with the shape of a module or of a fragment, but for too many levels.
type maker struct {
	*rand.Rand
	metas bool // whether there can be metavariables
}

func (m *maker) one(l ...string) string { return l[m.Intn(len(l))] }

func (m *maker) name() string {
	return m.one("a", "b", "f", "_", "x1", "ifs", "New", "thisOne", strings.Repeat("n", api.MaxName))
}

func node(kind int, text string, kids ...api.Node) api.Node {
	return api.Node{Kind: kind, Text: text, Kids: kids}
}

// meta returns whether there is to be a metavariable, and one.
func (m *maker) meta(kind int) (api.Node, bool) {
	return node(kind, m.name()), m.metas && m.Intn(5) == 0
}

// some returns a list of up to most nodes.
func (m *maker) some(most int, element func() api.Node) []api.Node {
	var l []api.Node
	for range m.Intn(most + 1) {
		l = append(l, element())
	}
	return l
}

func (m *maker) orMany(element func() api.Node) func() api.Node {
	return func() api.Node {
		if n, ok := m.meta(api.NdMany); ok {
			return n
		}
		return element()
	}
}

func (m *maker) list(most int, element func() api.Node) api.Node {
	return node(api.NdList, "", m.some(most, element)...)
}

func (m *maker) typeNode() api.Node {
	if n, ok := m.meta(api.NdMeta); ok {
		return n
	}
	return node(api.NdType, m.typeName())
}

func (m *maker) typeName() string {
	if m.Intn(2) == 0 {
		return m.name()
	}
	return m.name() + "." + m.name()
}

func (m *maker) leaf() api.Node {
	if n, ok := m.meta(api.NdMeta); ok {
		return n
	}
	switch m.Intn(6) {
	case 0:
		return node(api.NdInt, m.one("0", "7", "10", "123456789"))
	case 1:
		return node(api.NdText, m.one("", "a", "\"", "\\", "\n", "a\\\"\nb", "(", "//", "\\n", " ", strings.Repeat("\n", api.MaxPath)))
	case 2:
		return node(api.NdConst, m.one("true", "false", "null", "this"))
	}
	return node(api.NdName, m.name())
}

// expression has at most so many levels, as all of these.
func (m *maker) expression(levels int) api.Node {
	if levels <= 1 || m.Intn(6) == 0 {
		return m.leaf()
	}
	operand := func() api.Node { return m.expression(levels - 1) }
	switch m.Intn(8) {
	case 0:
		return node(api.NdMember, m.name(), operand())
	case 1:
		return node(api.NdCall, "", append([]api.Node{operand()}, m.some(2, m.orMany(operand))...)...)
	case 2:
		return node(api.NdNew, m.typeName(), m.some(2, m.orMany(operand))...)
	case 3:
		return node(api.NdUnary, m.one("-", "!"), operand())
	}
	return node(api.NdBinary, m.one("||", "&&", "==", "!=", "<", ">", "+", "-", "*", "/", "%"), operand(), operand())
}

func (m *maker) variable(levels int) api.Node {
	return node(api.NdVar, m.name(), m.typeNode(), m.list(1, func() api.Node { return m.expression(levels - 2) }))
}

func (m *maker) block(levels, most int) api.Node {
	return node(api.NdBlock, "", m.some(most, func() api.Node { return m.statement(levels - 1) })...)
}

func (m *maker) statement(levels int) api.Node {
	for _, kind := range []int{api.NdMeta, api.NdMany} {
		if n, ok := m.meta(kind); ok {
			return n
		}
	}
	value := func() api.Node { return m.expression(levels - 1) }
	kind := m.Intn(9)
	if levels < 4 && kind < 4 {
		kind += 4
	}
	switch kind {
	case 0:
		return m.block(levels, 3)
	case 1, 2:
		return node(api.NdIf, "", value(), m.block(levels-1, 2), m.list(1, func() api.Node { return m.block(levels-2, 2) }))
	case 3:
		return node(api.NdWhile, "", value(), m.block(levels-1, 2))
	case 4:
		return node(api.NdReturn, "", m.some(1, value)...)
	case 5:
		return node(api.NdAssign, "", value(), value())
	case 6, 7:
		n := value()
		for n.Kind == api.NdMeta {
			n = value()
		}
		return node(api.NdDo, "", n)
	}
	return m.variable(levels)
}

func (m *maker) function(levels int, block bool) api.Node {
	params := m.list(3, m.orMany(func() api.Node { return node(api.NdParam, m.name(), m.typeNode()) }))
	body := node(api.NdList, "")
	if block {
		body.Kids = []api.Node{m.block(levels-2, 3)}
	}
	return node(api.NdFunc, m.name(), params, m.list(1, m.typeNode), body)
}

func (m *maker) member(levels int, class bool) api.Node {
	for _, kind := range []int{api.NdMeta, api.NdMany} {
		if n, ok := m.meta(kind); ok {
			return n
		}
	}
	if class && m.Intn(2) == 0 {
		return m.variable(levels)
	}
	return m.function(levels, class)
}

func (m *maker) declaration(levels int) api.Node {
	members := func(class bool) api.Node {
		return m.list(3, func() api.Node { return m.member(levels-2, class) })
	}
	switch m.Intn(5) {
	case 0:
		return node(api.NdClass, m.name(), m.list(1, m.typeNode), m.list(3, m.orMany(m.typeNode)), members(true))
	case 1:
		return node(api.NdInterface, m.name(), m.list(3, m.orMany(m.typeNode)), members(false))
	case 2:
		return m.variable(levels)
	}
	return m.function(levels, true)
}

func (m *maker) module(levels int) api.Node {
	imports := m.some(2, func() api.Node { return node(api.NdImport, m.name()) })
	return node(api.NdModule, "", append(imports, m.some(3, func() api.Node { return m.declaration(levels - 1) })...)...)
}

// make returns a tree of a kind of fragments, or of a module.
func (m *maker) make(what, levels int) api.Node {
	switch what {
	case syntax.FragExpr:
		return m.expression(levels)
	case syntax.FragStmt:
		return m.statement(levels)
	case syntax.FragDecl:
		return m.declaration(levels)
	}
	return m.module(levels)
}

// spaced writes tokens with comments, line feeds and blanks between them, or nothing where they stay the same tokens.
func (m *maker) spaced(tokens []api.Token) string {
	var s strings.Builder
	for i, x := range tokens {
		gap := m.one("", "", "", " ", "  ", "\n", "\t", " \n ", "//\n", " // a ) \" ; {\n", "// b\n// c\n", "\n\n\n")
		if i > 0 && gap == "" && !apart(tokens[i-1], x) {
			gap = " "
		}
		if strings.HasPrefix(gap, "/") && i > 0 && printed(tokens[i-1:i]) == "/" {
			gap = " " + gap
		}
		s.WriteString(gap + printed([]api.Token{x}))
	}
	return s.String() + m.one("", " ", "\n", "// end", "\t//")
}

// apart reports whether two tokens are the same ones without a blank between them.
func apart(a, b api.Token) bool {
	l, _, err := token.ScanPattern(printed([]api.Token{a}) + printed([]api.Token{b}))
	return err == api.OK && len(l) == 2 && l[0].Text == a.Text && l[1].Text == b.Text
}

func TestMadeTrees(t *testing.T) { // P13.1 to P13.6
	rights := 0
	for seed := range 2400 {
		what := seed % 4
		m := &maker{rand.New(rand.NewSource(int64(seed))), what != module && seed%8 >= 4}
		tree := m.make(what, []int{5, 2, 3, 5}[what]+seed/8%8)
		if syntax.Size(tree) > 100 {
			continue
		}
		before := dump(tree, true)
		kind, full, found := module, written(tree), true
		got, err := format.Module(tree)
		if what != module {
			kind, full, found = fragmentOf(tree)
			got, err = format.Fragment(tree)
		}
		if !found {
			t.Fatalf("%q is no fragment", full)
		}
		want := canonical(kind, full)
		if what == module && len(want) > api.MaxText {
			continue
		}
		rights++
		if got != want || err != api.OK {
			t.Errorf("%s: %q, %d, not %q", full, got, err, want)
		}
		if after := dump(tree, true); after != before {
			t.Errorf("%s became %s", before, after)
		}
		if again, _, err := parse(kind, got); err != api.OK || !syntax.Same(again, tree) {
			t.Errorf("%q has another tree than %q", got, full)
		}
		if what == module {
			cleaned(t, full, want)
			cleaned(t, m.spaced(tokensOf(full)), want)
			cleaned(t, m.spaced(tokensOf(want)), want)
		}
	}
	if rights < 2000 {
		t.Errorf("%d trees", rights)
	}
}

func TestMadeChanges(t *testing.T) { // P13.1, P13.2: trees with some changes
	rights, wrongs := 0, 0
	for seed := range 8000 {
		m := &maker{rand.New(rand.NewSource(int64(seed))), seed%3 > 0}
		tree := m.make(1+seed%3, 2+seed%4)
		var all []*api.Node
		places(&tree, func(n *api.Node) { all = append(all, n) })
		if len(all) > 100 {
			continue
		}
		for range m.Intn(3) {
			n, other := all[m.Intn(len(all))], cloned(*all[m.Intn(len(all))])
			switch m.Intn(7) {
			case 0:
				n.Kind = m.Intn(27)
			case 1:
				n.Text = texts[m.Intn(len(texts))]
			case 2:
				n.Kids = append(slices.Clone(n.Kids), other)
			case 3:
				if len(n.Kids) > 0 {
					n.Kids = n.Kids[1:]
				}
			case 4:
				n.Text = other.Text
			case 5:
				n.Kids = other.Kids
			case 6:
				*n = other
			}
		}
		if syntax.Size(tree) > 200 || syntax.Depth(tree) > 40 {
			continue
		}
		before := dump(tree, true)
		if judged(t, tree) {
			rights++
		} else {
			wrongs++
		}
		in := node(api.NdModule, "", tree)
		got, err := format.Module(in)
		if right := syntax.Right(in); right != (err != api.ErrArg) || (got == "") != (err != api.OK) {
			t.Errorf("%s: %v, %q, %d", dump(in, false), right, got, err)
		}
		if after := dump(tree, true); after != before {
			t.Errorf("%s became %s", before, after)
		}
	}
	if rights < 3000 || wrongs < 2000 {
		t.Errorf("%d right ones, %d others", rights, wrongs)
	}
}
