package syntax_test

import (
	"math/rand"
	"strings"
	"testing"

	"codesearch/api"
	"codesearch/syntax"
	"codesearch/token"
)

// A maker writes a source together with its tree.
type maker struct {
	r      *rand.Rand
	source strings.Builder
	end    int  // of the last token
	tokens int  // how many there are
	metas  bool // whether there may be metavariables
}

func (m *maker) some(n int) bool { return m.r.Intn(n) == 0 }

func (m *maker) one(of string) string {
	l := strings.Fields(of)
	return l[m.r.Intn(len(l))]
}

func wordByte(c byte) bool {
	return '0' <= c && c <= '9' || 'a' <= c && c <= 'z' || 'A' <= c && c <= 'Z' || c == '_'
}

// space writes blanks and comments, or nothing.
func (m *maker) space() {
	if strings.HasSuffix(m.source.String(), "/") {
		m.source.WriteString(" ")
	}
	for m.some(3) {
		m.source.WriteString([]string{" ", "\n", "\t", "  ", "//\n", "// ) x\n", " // \" \n "}[m.r.Intn(7)])
	}
}

// token writes a token, which does not become one with the token before it, and returns where it begins.
func (m *maker) token(text string) int {
	m.space()
	if s := m.source.String(); s != "" {
		last := s[len(s)-1]
		if wordByte(last) && wordByte(text[0]) || strings.IndexByte("=!<>", last) >= 0 && text[0] == '=' {
			m.source.WriteString(" ")
		}
	}
	at := m.source.Len()
	m.source.WriteString(text)
	m.end = m.source.Len()
	m.tokens++
	return at
}

func (m *maker) node(kind int, text string, at int, kids ...api.Node) api.Node {
	return api.Node{Kind: kind, Text: text, At: at, End: m.end, Kids: kids}
}

// leaf writes a token that is a node.
func (m *maker) leaf(kind int, text, source string) api.Node {
	at := m.token(source)
	return m.node(kind, text, at)
}

func (m *maker) name() string {
	return m.one("a b c f x y A B _ _1 classy If int string this_ " + strings.Repeat("n", api.MaxName))
}

func (m *maker) named() string {
	name := m.name()
	m.token(name)
	return name
}

// series writes up to n elements with a separator between them.
func (m *maker) series(n int, separator string, element func() api.Node) []api.Node {
	var kids []api.Node
	for i := range m.r.Intn(n + 1) {
		if i > 0 && separator != "" {
			m.token(separator)
		}
		kids = append(kids, element())
	}
	return kids
}

// list returns a list of kids that were written behind an offset.
func (m *maker) list(behind int, kids []api.Node) api.Node {
	if len(kids) == 0 {
		return api.Node{Kind: api.NdList, At: behind, End: behind}
	}
	return api.Node{Kind: api.NdList, At: kids[0].At, End: kids[len(kids)-1].End, Kids: kids}
}

// optional writes a keyword or a mark and one element, or nothing.
func (m *maker) optional(before string, element func() api.Node) api.Node {
	behind := m.end
	if m.some(2) {
		return m.list(behind, nil)
	}
	m.token(before)
	return m.list(behind, []api.Node{element()})
}

// types writes a keyword and types, or nothing.
func (m *maker) types(before string) api.Node {
	behind := m.end
	if m.some(2) {
		return m.list(behind, nil)
	}
	m.token(before)
	kids := []api.Node{m.super()}
	for m.some(3) {
		m.token(",")
		kids = append(kids, m.super())
	}
	return m.list(behind, kids)
}

func (m *maker) super() api.Node {
	if m.metas && m.some(4) {
		return m.leaf(api.NdMany, "S", "$$S")
	}
	return m.typ()
}

func (m *maker) typ() api.Node {
	if m.metas && m.some(4) {
		return m.leaf(api.NdMeta, "T", "$T")
	}
	at, text := m.typeName()
	return m.node(api.NdType, text, at)
}

func (m *maker) typeName() (int, string) {
	text := m.name()
	at := m.token(text)
	if m.some(3) {
		m.token(".")
		text += "." + m.named()
	}
	return at, text
}

func (m *maker) module(fuel int) api.Node {
	kids := m.series(3, "", func() api.Node {
		at := m.token("import")
		name := m.named()
		m.token(";")
		return m.node(api.NdImport, name, at)
	})
	kids = append(kids, m.series(3, "", func() api.Node { return m.declaration(fuel) })...)
	m.space()
	return api.Node{Kind: api.NdModule, End: m.source.Len(), Kids: kids}
}

func (m *maker) declaration(fuel int) api.Node {
	switch m.r.Intn(4) {
	case 0:
		at := m.token("class")
		name := m.named()
		super, supers := m.optional("extends", m.typ), m.types("implements")
		return m.node(api.NdClass, name, at, super, supers, m.members(func() api.Node { return m.member(fuel) }))
	case 1:
		at := m.token("interface")
		name := m.named()
		supers := m.types("extends")
		return m.node(api.NdInterface, name, at, supers, m.members(func() api.Node { return m.function(fuel, false) }))
	case 2:
		return m.function(fuel, true)
	}
	return m.variable(fuel)
}

// members writes members in braces.
func (m *maker) members(member func() api.Node) api.Node {
	m.token("{")
	behind := m.end
	kids := m.series(3, "", func() api.Node {
		if m.metas && m.some(4) {
			return m.placeholder()
		}
		return member()
	})
	m.token("}")
	return m.list(behind, kids)
}

// placeholder writes a metavariable with a semicolon.
func (m *maker) placeholder() api.Node {
	kind, text, sign := api.NdMeta, m.name(), "$"
	if m.some(2) {
		kind, sign = api.NdMany, "$$"
	}
	at := m.token(sign + text)
	m.token(";")
	return m.node(kind, text, at)
}

func (m *maker) member(fuel int) api.Node {
	if m.some(2) {
		return m.variable(fuel)
	}
	return m.function(fuel, true)
}

func (m *maker) function(fuel int, withBlock bool) api.Node {
	at := m.token("func")
	name := m.named()
	m.token("(")
	behind := m.end
	params := m.list(behind, m.series(3, ",", m.parameter))
	m.token(")")
	result := m.optional(":", m.typ)
	behind = m.end
	if withBlock {
		return m.node(api.NdFunc, name, at, params, result, m.list(behind, []api.Node{m.block(fuel)}))
	}
	m.token(";")
	return m.node(api.NdFunc, name, at, params, result, m.list(behind, nil))
}

func (m *maker) parameter() api.Node {
	if m.metas && m.some(4) {
		return m.leaf(api.NdMany, "P", "$$P")
	}
	text := m.name()
	at := m.token(text)
	m.token(":")
	return m.node(api.NdParam, text, at, m.typ())
}

func (m *maker) variable(fuel int) api.Node {
	at := m.token("var")
	name := m.named()
	m.token(":")
	kind := m.typ()
	value := m.optional("=", func() api.Node { return m.expr(1, fuel-2) })
	m.token(";")
	return m.node(api.NdVar, name, at, kind, value)
}

func (m *maker) block(fuel int) api.Node {
	at := m.token("{")
	var kids []api.Node
	if fuel > 0 {
		kids = m.series(3, "", func() api.Node { return m.statement(fuel - 1) })
	}
	m.token("}")
	return m.node(api.NdBlock, "", at, kids...)
}

func (m *maker) test(fuel int) api.Node {
	m.token("(")
	n := m.expr(1, fuel)
	m.token(")")
	return n
}

func (m *maker) statement(fuel int) api.Node {
	if m.metas && m.some(5) {
		return m.placeholder()
	}
	switch m.r.Intn(8) {
	case 0:
		return m.variable(fuel)
	case 1:
		return m.block(fuel)
	case 2:
		at := m.token("return")
		var kids []api.Node
		if m.some(2) {
			kids = []api.Node{m.expr(1, fuel-1)}
		}
		m.token(";")
		return m.node(api.NdReturn, "", at, kids...)
	case 3:
		at := m.token("if")
		test, block := m.test(fuel-1), m.block(fuel-1)
		return m.node(api.NdIf, "", at, test, block, m.optional("else", func() api.Node { return m.block(fuel - 2) }))
	case 4:
		at := m.token("while")
		test, block := m.test(fuel-1), m.block(fuel-1)
		return m.node(api.NdWhile, "", at, test, block)
	case 5:
		left := m.expr(1, fuel-1)
		m.token("=")
		right := m.expr(1, fuel-1)
		m.token(";")
		return m.node(api.NdAssign, "", left.At, left, right)
	}
	n := m.expr(1, fuel-1)
	alone := n.Kind == api.NdMeta && m.source.String()[n.At] == '$'
	m.token(";")
	if alone {
		return m.node(api.NdMeta, n.Text, n.At)
	}
	return m.node(api.NdDo, "", n.At, n)
}

// expr writes an expression, in parentheses if its level is below the least one or by chance.
func (m *maker) expr(least, fuel int) api.Node {
	operator, level := "", 8
	if fuel > 0 {
		switch m.r.Intn(4) {
		case 0:
			level = 1 + m.r.Intn(len(operatorLevels))
			operator = m.one(operatorLevels[level-1])
		case 1:
			level, operator = 7, m.one("! -")
		}
	}
	var opened []int
	if level < least {
		opened = append(opened, m.token("("))
	}
	for m.some(8) {
		opened = append(opened, m.token("("))
	}
	n := m.bare(operator, level, fuel)
	for len(opened) > 0 {
		m.token(")")
		n.At, n.End = opened[len(opened)-1], m.end
		opened = opened[:len(opened)-1]
	}
	return n
}

func (m *maker) bare(operator string, level, fuel int) api.Node {
	switch {
	case level == 8:
		return m.postfix(fuel)
	case level == 7:
		at := m.token(operator)
		return m.node(api.NdUnary, operator, at, m.expr(7, fuel-1))
	}
	left := m.expr(level, fuel-1)
	m.token(operator)
	right := m.expr(level+1, fuel-1)
	return m.node(api.NdBinary, operator, left.At, left, right)
}

func (m *maker) postfix(fuel int) api.Node {
	if fuel <= 0 || m.some(4) {
		return m.simplest()
	}
	switch m.r.Intn(3) {
	case 0:
		of := m.expr(8, fuel-1)
		m.token(".")
		name := m.named()
		return m.node(api.NdMember, name, of.At, of)
	case 1:
		called := m.expr(8, fuel-1)
		kids := append([]api.Node{called}, m.arguments(fuel-1)...)
		return m.node(api.NdCall, "", called.At, kids...)
	}
	at := m.token("new")
	_, class := m.typeName()
	return m.node(api.NdNew, class, at, m.arguments(fuel-1)...)
}

func (m *maker) arguments(fuel int) []api.Node {
	m.token("(")
	kids := m.series(3, ",", func() api.Node {
		if m.metas && m.some(5) {
			return m.leaf(api.NdMany, "R", "$$R")
		}
		return m.expr(1, fuel)
	})
	m.token(")")
	return kids
}

func (m *maker) simplest() api.Node {
	if m.metas && m.some(4) {
		return m.leaf(api.NdMeta, "E", "$E")
	}
	switch m.r.Intn(5) {
	case 0:
		text := m.one("0 1 42 999999999")
		return m.leaf(api.NdInt, text, text)
	case 1:
		text := m.one("true false null this")
		return m.leaf(api.NdConst, text, text)
	case 2:
		i := m.r.Intn(4)
		return m.leaf(api.NdText, []string{"", "a\"\\\nb", "// (", strings.Repeat("~", api.MaxPath)}[i], []string{`""`, `"a\"\\\nb"`, `"// ("`, `"` + strings.Repeat("~", api.MaxPath) + `"`}[i])
	}
	text := m.name()
	return m.leaf(api.NdName, text, text)
}

// made writes a source of a kind with its tree.
func made(r *rand.Rand, what, fuel int) (string, api.Node, int) {
	m := &maker{r: r, metas: what != module}
	if m.metas && r.Intn(4) == 0 {
		m.metas = false
	}
	var n api.Node
	switch what {
	case module:
		n = m.module(fuel)
	case syntax.FragExpr:
		n = m.expr(1, fuel)
	case syntax.FragStmt:
		n = m.statement(fuel)
	case syntax.FragDecl:
		n = m.declaration(fuel)
	}
	m.space()
	if what == module {
		n.End = m.source.Len()
	}
	return m.source.String(), n, m.tokens
}

// onLevel returns the nodes on a level of a tree.
func onLevel(n api.Node, level int) []api.Node {
	l := []api.Node{n}
	for range level - 1 {
		var kids []api.Node
		for _, n := range l {
			kids = append(kids, n.Kids...)
		}
		l = kids
	}
	return l
}

func TestMadeSources(t *testing.T) { // P12.1, P12.2, and the consequences P12.5 to P12.8
	deep, right, metas := 0, 0, 0
	for seed := range 12000 {
		what := []int{module, 1, 2, 3}[seed%4]
		s, want, tokens := made(rand.New(rand.NewSource(int64(seed))), what, 1+seed/4%12)
		if tokens > api.MaxTokens {
			continue
		}
		if below := onLevel(want, api.MaxDepth+1); len(below) > 0 {
			deep++
			refuses(t, what, s, below[0].At, api.ErrLong)
			continue
		}
		n, at, err := parse(what, s)
		if got, want := dump(n, true), dump(want, true); got != want || at != 0 || err != api.OK {
			t.Fatalf("%q as %d: %d, %d\n%s\n%s", s, what, at, err, got, want)
		}
		right++
		insideParent(t, s, n)
		if what == module {
			if !syntax.Right(n) {
				t.Errorf("%q is not right", s)
			}
			piecesAgain(t, s, n)
			printedAgain(t, s, n)
		} else if strings.Contains(s, "$") {
			metas++
		}
	}
	if deep < 200 || right < 5000 || metas < 1000 {
		t.Errorf("only %d deep ones, %d others, %d with metavariables", deep, right, metas)
	}
}

// insideParent wants kids within a node, in order and not overlapping.
func insideParent(t *testing.T, s string, n api.Node) { // P12.5
	at := n.At
	if n.At < 0 || n.End < n.At || n.End > len(s) {
		t.Errorf("%q: %d to %d", s, n.At, n.End)
	}
	for _, kid := range n.Kids {
		if kid.At < at || kid.End > n.End {
			t.Errorf("%q: %s in %s", s, dump(kid, true), dump(n, true))
		}
		at = kid.End
		insideParent(t, s, kid)
	}
}

// piecesAgain wants the sources of expressions and statements to be fragments.
func piecesAgain(t *testing.T, s string, n api.Node) { // P12.7
	what := 0
	switch n.Kind {
	case api.NdName, api.NdInt, api.NdText, api.NdConst, api.NdMember, api.NdCall, api.NdNew, api.NdUnary, api.NdBinary:
		what = syntax.FragExpr
	case api.NdVar, api.NdBlock, api.NdReturn, api.NdIf, api.NdWhile, api.NdAssign, api.NdDo:
		what = syntax.FragStmt
	}
	if what != 0 {
		if f, _, err := syntax.Fragment(what, s[n.At:n.End]); err != api.OK || !syntax.Same(f, n) {
			t.Errorf("%q: %s is %s, %d", s[n.At:n.End], dump(n, false), dump(f, false), err)
		}
	}
	for _, kid := range n.Kids {
		piecesAgain(t, s, kid)
	}
}

// printedAgain wants the same tree of the tokens alone.
func printedAgain(t *testing.T, s string, n api.Node) { // P12.8
	tokens, _, _ := token.Scan(s)
	printed, _ := token.Print(tokens)
	if again, at, err := syntax.Module(printed); err != api.OK || at != 0 || dump(again, false) != dump(n, false) {
		t.Errorf("%q: %q, %d, %d", s, printed, at, err)
	}
}
