package regram_test

import (
	"math"
	"math/rand"
	"slices"
	"strings"
	"testing"

	"codesearch/api"
	"codesearch/regex"
	"codesearch/regram"
)

// set returns a ReSet of ranges, of each of which the first and the last byte are given.
func set(ends ...byte) api.Regex {
	re := api.Regex{Kind: api.ReSet}
	for i := 0; i < len(ends); i += 2 {
		re.Set = append(re.Set, api.Range{Lo: ends[i], Hi: ends[i+1]})
	}
	return re
}

func one(c byte) api.Regex { return set(c, c) }

func cat(subs ...api.Regex) api.Regex { return api.Regex{Kind: api.ReCat, Subs: subs} }

func alt(subs ...api.Regex) api.Regex { return api.Regex{Kind: api.ReAlt, Subs: subs} }

func rep(sub api.Regex, least, most int) api.Regex {
	return api.Regex{Kind: api.ReRepeat, Min: least, Max: most, Subs: []api.Regex{sub}}
}

func begin() api.Regex { return api.Regex{Kind: api.ReBegin} }

func end() api.Regex { return api.Regex{Kind: api.ReEnd} }

func bound() api.Regex { return api.Regex{Kind: api.ReBound} }

// bytes returns the sequence of the bytes of a string.
func bytes(s string) api.Regex {
	re := cat()
	for i := range len(s) {
		re.Subs = append(re.Subs, one(s[i]))
	}
	return re
}

// parsed returns the expression of a string.
func parsed(s string) api.Regex {
	re, err := regex.Parse(s)
	if err != api.OK {
		panic("no expression: " + s)
	}
	return re
}

// times returns n equal expressions.
func times(n int, re api.Regex) []api.Regex {
	var l []api.Regex
	for range n {
		l = append(l, cloned(re))
	}
	return l
}

// nested returns an expression with n repetitions around it.
func nested(n int, re api.Regex, least, most int) api.Regex {
	for range n {
		re = rep(re, least, most)
	}
	return re
}

// cloned returns a copy that shares no memory with the original.
func cloned(re api.Regex) api.Regex {
	re.Set = slices.Clone(re.Set)
	re.Subs = slices.Clone(re.Subs)
	for i := range re.Subs {
		re.Subs[i] = cloned(re.Subs[i])
	}
	return re
}

// stringSet is a set of strings as the definition of literals has them.
type stringSet map[string]bool

func (set stringSet) sorted() []string {
	var l []string
	for s := range set {
		l = append(l, s)
	}
	slices.Sort(l)
	return l
}

// with adds the strings of another set.
func (set stringSet) with(other stringSet) {
	for s := range other {
		set[s] = true
	}
}

// productOf follows the definition of the product; the bool tells whether it exists.
func productOf(a, b stringSet) (stringSet, bool) {
	all, exists := stringSet{}, true
	for x := range a {
		for y := range b {
			all[x+y] = true
			exists = exists && len(x+y) <= 16
		}
	}
	return all, exists && len(all) <= 8
}

// literalsOf follows the definition of literals, with or without folding; the bool tells whether there are any.
func literalsOf(re api.Regex, folded bool) (stringSet, bool) {
	switch re.Kind {
	case api.ReSet:
		all := stringSet{}
		for c := range 256 {
			for _, r := range re.Set {
				if s := string([]byte{byte(c)}); int(r.Lo) <= c && c <= int(r.Hi) {
					all[foldedIf(folded, s)] = true
				}
			}
		}
		return all, len(all) <= 8
	case api.ReCat:
		all, exists := stringSet{"": true}, true
		for _, sub := range re.Subs {
			list, has := literalsOf(sub, folded)
			if !has {
				return nil, false
			}
			if all, exists = productOf(all, list); !exists {
				return nil, false
			}
		}
		return all, true
	case api.ReAlt:
		all := stringSet{}
		for _, sub := range re.Subs {
			list, has := literalsOf(sub, folded)
			all.with(list)
			if !has || len(all) > 8 {
				return nil, false
			}
		}
		return all, true
	case api.ReRepeat:
		return repetitionOf(re, folded)
	}
	return nil, false
}

// repetitionOf follows the definition of the literals of a repetition.
func repetitionOf(re api.Regex, folded bool) (stringSet, bool) {
	sub, has := literalsOf(re.Subs[0], folded)
	if !has || re.Max == -1 {
		return nil, false
	}
	list, exists := stringSet{"": true}, true
	all := stringSet{}
	for k := 0; k <= re.Max; k++ {
		if k > 0 {
			list, exists = productOf(list, sub)
		}
		if k >= re.Min {
			all.with(list)
		}
		if !exists || len(all) > 8 {
			return nil, false
		}
	}
	return all, true
}

func foldedIf(folded bool, s string) string {
	const upper, lower = "ABCDEFGHIJKLMNOPQRSTUVWXYZ", "abcdefghijklmnopqrstuvwxyz"
	if at := strings.Index(upper, s); folded && at >= 0 {
		return lower[at : at+1]
	}
	return s
}

var always, never = api.Need{Kind: api.NeedAll}, api.Need{Kind: api.NeedNone}

func and(subs ...api.Need) api.Need { return api.Need{Kind: api.NeedAnd, Subs: subs} }

func or(subs ...api.Need) api.Need { return api.Need{Kind: api.NeedOr, Subs: subs} }

func code(n int) api.Need { return api.Need{Kind: api.NeedGram, Gram: n} }

// gram returns the condition that a trigram of bytes other than A to Z occurs.
func gram(s string) api.Need {
	if len(s) != 3 {
		panic("no trigram: " + s)
	}
	return code(65536*int(s[0]) + 256*int(s[1]) + int(s[2]))
}

// grams returns the NeedAnd of trigrams that stand side by side.
func grams(list string) api.Need {
	n := and()
	for _, s := range strings.Fields(list) {
		n.Subs = append(n.Subs, gram(s))
	}
	return n
}

// stringCondition and listCondition follow the definitions.
func stringCondition(s string) api.Need {
	if len(s) < 3 {
		return always
	}
	n := and()
	for i := 0; i+3 <= len(s); i++ {
		n.Subs = append(n.Subs, gram(s[i:i+3]))
	}
	return n
}

func listCondition(list stringSet) api.Need {
	n := or()
	for _, s := range list.sorted() {
		n.Subs = append(n.Subs, stringCondition(s))
	}
	return n
}

// rawOf follows the definition of the raw condition.
func rawOf(re api.Regex) api.Need {
	if list, has := literalsOf(re, true); has {
		return listCondition(list)
	}
	switch {
	case re.Kind == api.ReCat:
		return and(partsOf(re.Subs)...)
	case re.Kind == api.ReAlt:
		n := or()
		for _, sub := range re.Subs {
			n.Subs = append(n.Subs, rawOf(sub))
		}
		return n
	case re.Kind == api.ReRepeat && re.Min > 0:
		return rawOf(re.Subs[0])
	}
	return always
}

// partsOf follows the definition of the conditions of the parts of a sequence: the first part, and those of the rest.
func partsOf(subs []api.Regex) []api.Need {
	if len(subs) == 0 {
		return nil
	}
	list, has := literalsOf(subs[0], true)
	if !has {
		return append([]api.Need{rawOf(subs[0])}, partsOf(subs[1:])...)
	}
	n := 1
	for ; n < len(subs); n++ {
		next, has := literalsOf(subs[n], true)
		longer, exists := productOf(list, next)
		if !has || !exists {
			break
		}
		list = longer
	}
	return append([]api.Need{listCondition(list)}, partsOf(subs[n:])...)
}

// equal follows the definition of Same.
func equal(a, b api.Need) bool {
	if a.Kind != b.Kind || a.Gram != b.Gram || len(a.Subs) != len(b.Subs) {
		return false
	}
	for i := range a.Subs {
		if !equal(a.Subs[i], b.Subs[i]) {
			return false
		}
	}
	return true
}

// simplestOf follows the definition of the simplest form.
func simplestOf(n api.Need) api.Need {
	if n.Kind != api.NeedAnd && n.Kind != api.NeedOr {
		return n
	}
	empty, whole := always, never
	if n.Kind == api.NeedOr {
		empty, whole = never, always
	}
	var forms []api.Need
	for _, sub := range n.Subs {
		if form := simplestOf(sub); form.Kind == n.Kind {
			forms = append(forms, form.Subs...)
		} else {
			forms = append(forms, form)
		}
	}
	var left []api.Need
	for i, form := range forms {
		same := func(other api.Need) bool { return equal(form, other) }
		if !equal(form, empty) && !slices.ContainsFunc(forms[:i], same) {
			left = append(left, form)
		}
	}
	switch {
	case slices.ContainsFunc(left, func(form api.Need) bool { return form.Kind == whole.Kind }):
		return whole
	case len(left) == 0:
		return empty
	case len(left) == 1:
		return left[0]
	}
	return api.Need{Kind: n.Kind, Subs: left}
}

// holds follows the meaning of the kinds.
func holds(n api.Need, codes []int) bool {
	count := 0 // the subs that hold
	for _, sub := range n.Subs {
		if holds(sub, codes) {
			count++
		}
	}
	switch n.Kind {
	case api.NeedAll:
		return true
	case api.NeedGram:
		return slices.Contains(codes, n.Gram)
	case api.NeedAnd:
		return count == len(n.Subs)
	case api.NeedOr:
		return count > 0
	}
	return false
}

// clonedNeed returns a copy that shares no memory with the original.
func clonedNeed(n api.Need) api.Need {
	n.Subs = slices.Clone(n.Subs)
	for i := range n.Subs {
		n.Subs[i] = clonedNeed(n.Subs[i])
	}
	return n
}

// leaves are expressions without subs, of every kind.
func leaves() []api.Regex {
	return []api.Regex{one('a'), one('B'), one('c'), set('a', 'b'), set('a', 'a', 'A', 'B'), set('a', 'h'), set('A', 'B', 'a', 'g'), set('a', 'i'), set(0, 9, 11, 255), cat(), begin(), end(), bound()}
}

// bounds are the bounds of repetitions, some of each kind.
var bounds = [][2]int{{0, -1}, {1, -1}, {2, -1}, {8, -1}, {0, 1}, {1, 1}, {0, 2}, {1, 2}, {2, 2}, {3, 3}, {2, 4}, {3, 4}, {0, 7}, {0, 8}, {1, 8}, {8, 8}}

// grown returns all expressions whose root has the given expressions as subs: one for a repetition, up to two otherwise.
func grown(subs []api.Regex) []api.Regex {
	var l []api.Regex
	for _, a := range subs {
		l = append(l, cat(a))
		for _, b := range bounds {
			l = append(l, rep(a, b[0], b[1]))
		}
		for _, b := range subs {
			l = append(l, cat(a, b), alt(a, b))
		}
	}
	return l
}

// few are expressions with few strings, which can have literals when they are joined.
func few() []api.Regex {
	return []api.Regex{one('a'), one('B'), bytes("foo"), bytes("Ba"), bytes("aaaa"), set('a', 'b'), rep(one('a'), 0, 1), rep(one('a'), 4, 4), cat(), alt(one('b'), bytes("abc"))}
}

// mixed returns an expression of at most so many levels of some of the given ones.
func mixed(r *rand.Rand, levels int, of []api.Regex) api.Regex {
	if levels == 1 {
		return cloned(of[r.Intn(len(of))])
	}
	var subs []api.Regex
	for range 1 + r.Intn(5) {
		subs = append(subs, mixed(r, 1+r.Intn(levels-1), of))
	}
	switch n := r.Intn(4); {
	case n == 0:
		b := bounds[r.Intn(len(bounds))]
		return rep(subs[0], b[0], b[1])
	case n == 1 && len(subs) > 1:
		return alt(subs...)
	}
	return cat(subs...)
}

// valid returns a mixed expression for which regex.Right returns OK.
func valid(r *rand.Rand) api.Regex {
	of := few()
	if r.Intn(3) == 0 {
		of = append(of, leaves()...)
	}
	for {
		if re := mixed(r, 2+r.Intn(3), of); regex.Right(re) == api.OK {
			return re
		}
	}
}

// visitValid calls visit with all expressions of up to two levels, some of three, and made ones.
func visitValid(visit func(re api.Regex)) {
	all := append(leaves(), few()...)
	low := append(all, grown(all)...)
	r := rand.New(rand.NewSource(10))
	for i, re := range low {
		visit(re)
		other := low[(i*37+11)%len(low)]
		b := bounds[i%len(bounds)]
		for _, whole := range []api.Regex{cat(re, other), alt(re, other), alt(other, re, other), cat(other, re, re), rep(re, b[0], b[1]), rep(cat(other, re), b[0], b[1])} {
			if regex.Right(whole) == api.OK {
				visit(whole)
			}
		}
	}
	for range 12000 {
		visit(valid(r))
	}
}

// invalid returns expressions for which regex.Right does not return OK: in each way that it tells apart, alone and within others.
func invalid() []api.Regex {
	a := one('a')
	nodes := []api.Regex{
		{}, {Kind: -1}, {Kind: 8}, {Kind: math.MaxInt}, {Kind: math.MinInt}, {Kind: 8, Subs: times(2, a)},
		{Kind: api.ReSet}, set('b', 'a'), set('a', 'b', 9, 8),
		{Kind: api.ReSet, Set: a.Set, Min: 1}, {Kind: api.ReSet, Set: a.Set, Max: 1}, {Kind: api.ReSet, Set: a.Set, Subs: times(1, a)},
		alt(), alt(a), {Kind: api.ReRepeat, Max: 1}, {Kind: api.ReRepeat, Max: -1}, {Kind: api.ReRepeat, Max: 1, Subs: times(2, a)}, {Kind: api.ReRepeat, Max: 1, Set: a.Set, Subs: times(1, a)},
		rep(a, 0, 0), rep(a, -1, -1), rep(a, -1, 1), rep(a, 0, 9), rep(a, 9, -1), rep(a, 9, 9), rep(a, 3, 2), rep(a, 1, 0), rep(a, 0, -2), rep(cat(), 0, -2), rep(cat(), 9, 9), rep(a, math.MaxInt, math.MaxInt), rep(a, math.MinInt, math.MinInt), rep(a, 0, math.MaxInt),
		{Kind: api.ReCat, Set: a.Set}, {Kind: api.ReCat, Max: -1}, {Kind: api.ReCat, Min: 1, Subs: times(3, a)}, {Kind: api.ReAlt, Min: math.MinInt, Subs: times(2, a)}, {Kind: api.ReAlt, Set: a.Set, Subs: times(2, a)},
		{Kind: api.ReBegin, Subs: times(1, a)}, {Kind: api.ReBegin, Min: 1}, {Kind: api.ReEnd, Max: -1}, {Kind: api.ReBound, Set: a.Set},
		nested(12, a, 1, 1), nested(12, cat(), 0, 1), cat(times(20, rep(a, 1, 1))...), cat(times(40, cat())...), alt(times(40, a)...),
		nested(65535, a, 1, 1), rep(nested(65534, a, 1, 1), math.MaxInt, math.MaxInt), nested(65535, api.Regex{}, 1, 1), cat(times(9999, alt())...),
	}
	all := slices.Clone(nodes)
	for _, re := range nodes {
		all = append(all, cat(bytes("foo"), re), cat(re, bytes("foo")), alt(re, a), alt(a, re), rep(re, 1, 2), rep(alt(cat(), cat(re)), 1, 1))
	}
	return all
}

func TestInvalidExpressions(t *testing.T) { // P10.1, P10.2
	for i, re := range invalid() {
		if regex.Right(re) == api.OK {
			t.Fatalf("expression %d is valid", i)
		}
		if list, ok := regram.Literals(re); ok || len(list) != 0 {
			t.Errorf("literals of the expression %d, which is not valid: %q, %v", i, list, ok)
		}
		if n := regram.Of(re); !equal(n, always) {
			t.Errorf("the condition of the expression %d, which is not valid, is %v", i, n)
		}
	}
}

func TestExamples(t *testing.T) { // the chapter's examples
	if list, ok := regram.Literals(parsed("ab?c")); !slices.Equal(list, []string{"abc", "ac"}) || !ok {
		t.Errorf("literals of ab?c: %q, %v", list, ok)
	}
	if list, ok := regram.Literals(parsed("a+")); len(list) != 0 || ok {
		t.Errorf("literals of a+: %q, %v", list, ok)
	}
	for s, want := range map[string]api.Need{
		"foo.*bar": and(code(6713199), code(6447474)),
		"fo[ox]":   or(code(6713199), code(6713208)),
		"ab+c":     always,
		"(foo|.)":  always,
		"(foo)+":   code(6713199),
		"(foo)*":   always,
	} {
		if n := regram.Of(parsed(s)); !equal(n, want) {
			t.Errorf("Of %s is %v, not %v", s, n, want)
		}
	}
	if n := regram.Simplify(and(always, and(code(5), code(6)), code(5))); !equal(n, and(code(5), code(6))) {
		t.Errorf("the fourth example: %v", n)
	}
}

// memory collects the addresses of the elements of all lists of a condition, with those that the lists could grow into.
type memory map[*api.Need]bool

// hasAny adds the lists of a condition, and reports whether one of them shares memory with another one.
func (m memory) hasAny(n api.Need) bool {
	shares := false
	all := n.Subs[:cap(n.Subs)]
	for i := range all {
		shares = shares || m[&all[i]]
		m[&all[i]] = true
	}
	for _, sub := range n.Subs {
		shares = m.hasAny(sub) || shares
	}
	return shares
}

// shared returns valid conditions whose lists share memory within them, and empty lists that could grow.
func shared() []api.Need {
	roomy := func(n api.Need) api.Need {
		n.Subs = make([]api.Need, 0, 3)
		return n
	}
	twice := []api.Need{code(1), code(2)}
	both, either := api.Need{Kind: api.NeedAnd, Subs: twice}, api.Need{Kind: api.NeedOr, Subs: twice}
	return []api.Need{
		roomy(always), roomy(never), roomy(code(7)), both, either,
		and(roomy(always), roomy(code(7))), or(roomy(code(7)), roomy(code(8)), roomy(never)),
		and(either, code(3), or(and(either, code(4)), code(5))), or(both, both, and(code(3), or(both, code(5)))),
		or(both, and(or(both, code(3)), code(4)), either), and(both, either, or(both, either)), and(either, either), or(or(either, both), both),
	}
}

// TestMemory shows that arguments stay as they are, and that results share memory neither with them nor within themselves.
func TestMemory(t *testing.T) { // DOC.md, 'Memory'; LANGUAGE.md, rule 7
	for _, n := range append(shared(), conditions()...) {
		before, codes, same := clonedNeed(n), []int{3, 1, 2, 1}, memory{}
		same.hasAny(n)
		if form := regram.Simplify(n); same.hasAny(form) {
			t.Fatalf("Simplify(%v) shares memory", n)
		}
		regram.Right(n)
		regram.Eval(n, codes)
		regram.Same(n, n)
		if !equal(n, before) || !slices.Equal(codes, []int{3, 1, 2, 1}) {
			t.Fatalf("%v has changed to %v, or the codes to %v", before, n, codes)
		}
	}
	common := set('a', 'b', 'A', 'B')
	r := rand.New(rand.NewSource(3))
	all := []api.Regex{parsed("ab?c"), cat(common, common), alt(common, cat(common, one('x'))), rep(cat(common, one('x')), 1, 2)}
	for range 2000 {
		all = append(all, valid(r))
	}
	for _, re := range all {
		before := cloned(re)
		list, _ := regram.Literals(re)
		want := slices.Clone(list)
		for i := range list[:cap(list)] {
			list[:cap(list)][i] = "changed"
		}
		if n := regram.Of(re); (memory{}).hasAny(n) {
			t.Fatalf("lists of Of(%v) share memory", re)
		}
		if again, _ := regram.Literals(re); !slices.Equal(again, want) {
			t.Fatalf("the second time the literals of %v are %q, not %q", re, again, want)
		}
		if !regex.Same(re, before) {
			t.Fatalf("%v has changed to %v", before, re)
		}
	}
}
