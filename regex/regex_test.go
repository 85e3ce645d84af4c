package regex_test

import (
	"math"
	"math/rand"
	"slices"
	"strings"
	"testing"

	"codesearch/api"
	"codesearch/regex"
)

// set returns a ReSet of ranges, of each of which the first and the last byte are given.
func set(ends ...byte) api.Regex {
	re := api.Regex{Kind: api.ReSet}
	for i := 0; i < len(ends); i += 2 {
		re.Set = append(re.Set, api.Range{Lo: ends[i], Hi: ends[i+1]})
	}
	return re
}

func one(c byte) api.Regex { return set(c, c) }

func dot() api.Regex { return set(0, 9, 11, 255) }

func digit() api.Regex { return set('0', '9') }

func wordByte() api.Regex { return set('0', '9', 'A', 'Z', '_', '_', 'a', 'z') }

func cat(subs ...api.Regex) api.Regex { return api.Regex{Kind: api.ReCat, Subs: subs} }

func alt(subs ...api.Regex) api.Regex { return api.Regex{Kind: api.ReAlt, Subs: subs} }

func rep(sub api.Regex, least, most int) api.Regex {
	return api.Regex{Kind: api.ReRepeat, Min: least, Max: most, Subs: []api.Regex{sub}}
}

func begin() api.Regex { return api.Regex{Kind: api.ReBegin} }

func end() api.Regex { return api.Regex{Kind: api.ReEnd} }

func bound() api.Regex { return api.Regex{Kind: api.ReBound} }

// letters returns the sequence of the bytes of s, whatever their number.
func letters(s string) api.Regex {
	re := cat()
	for i := range len(s) {
		re.Subs = append(re.Subs, one(s[i]))
	}
	return re
}

// times returns n equal expressions.
func times(n int, re api.Regex) []api.Regex {
	var l []api.Regex
	for range n {
		l = append(l, cloned(re))
	}
	return l
}

// nested returns an expression with n repetitions around it.
func nested(n int, re api.Regex) api.Regex {
	for range n {
		re = rep(re, 0, -1)
	}
	return re
}

// equal reports whether two expressions have the same fields; nil and empty lists are equal.
func equal(a, b api.Regex) bool {
	if a.Kind != b.Kind || a.Min != b.Min || a.Max != b.Max || len(a.Set) != len(b.Set) || len(a.Subs) != len(b.Subs) {
		return false
	}
	for i := range a.Set {
		if a.Set[i].Lo != b.Set[i].Lo || a.Set[i].Hi != b.Set[i].Hi {
			return false
		}
	}
	for i := range a.Subs {
		if !equal(a.Subs[i], b.Subs[i]) {
			return false
		}
	}
	return true
}

// cloned returns a copy that shares no memory with the original.
func cloned(re api.Regex) api.Regex {
	re.Set = slices.Clone(re.Set)
	re.Subs = slices.Clone(re.Subs)
	for i := range re.Subs {
		re.Subs[i] = cloned(re.Subs[i])
	}
	return re
}

// preorder returns the nodes of an expression from the root on, each before its subs.
func preorder(re api.Regex) []api.Regex {
	l := []api.Regex{re}
	for _, sub := range re.Subs {
		l = append(l, preorder(sub)...)
	}
	return l
}

// levelsOf returns the number of the nodes on the longest way from the root down.
func levelsOf(re api.Regex) int {
	deepest := 0
	for _, sub := range re.Subs {
		deepest = max(deepest, levelsOf(sub))
	}
	return deepest + 1
}

// errorOf follows P8.1 for one node.
func errorOf(n api.Regex) api.Errno {
	isSet, isCat, isAlt, isRep := n.Kind == 1, n.Kind == 2, n.Kind == 3, n.Kind == 4
	reversed := false
	for _, r := range n.Set {
		reversed = reversed || r.Lo > r.Hi
	}
	switch {
	case n.Kind <= 0 || n.Kind >= 8:
		return api.ErrArg
	case isSet && len(n.Set) == 0, isSet && reversed, isRep && len(n.Subs) != 1, isAlt && len(n.Subs) <= 1:
		return api.ErrArg
	case !isSet && len(n.Set) != 0, !isRep && n.Min != 0, !isRep && n.Max != 0, !isCat && !isAlt && !isRep && len(n.Subs) != 0:
		return api.ErrArg
	case isRep && (n.Min < 0 || n.Min > 8), isRep && n.Max != -1 && (n.Max < 1 || n.Max > 8 || n.Max < n.Min):
		return api.ErrRange
	}
	return api.OK
}

// rightOf follows P8.1.
func rightOf(re api.Regex) api.Errno {
	nodes := preorder(re)
	for _, n := range nodes {
		if err := errorOf(n); err != api.OK {
			return err
		}
	}
	if len(nodes) > 40 || levelsOf(re) > 12 {
		return api.ErrLong
	}
	return api.OK
}

// bytesOf returns which bytes are in the ranges.
func bytesOf(ranges []api.Range) [256]bool {
	var in [256]bool
	for _, r := range ranges {
		for c := int(r.Lo); c <= int(r.Hi); c++ {
			in[c] = true
		}
	}
	return in
}

// rangesOf returns the canonical ranges of the bytes that are in a set.
func rangesOf(in [256]bool) []api.Range {
	var l []api.Range
	for lo := 0; lo < 256; lo++ {
		if !in[lo] {
			continue
		}
		hi := lo
		for hi+1 < 256 && in[hi+1] {
			hi++
		}
		l = append(l, api.Range{Lo: byte(lo), Hi: byte(hi)})
		lo = hi
	}
	return l
}

// without returns the bytes that are not in a set.
func without(in [256]bool) [256]bool {
	for c := range in {
		in[c] = !in[c]
	}
	return in
}

// leaves are expressions without subs, of every kind: with sets that have a canonical string, and with others.
func leaves() []api.Regex {
	return []api.Regex{
		one('a'), one('-'), one('|'), one('\n'), set('Y', 'b'), dot(), set('0', '0', '3', '5'), // canonical, printable
		set('b', 'b', 'a', 'a'), one(0), set(0, 255), // without a canonical string
		cat(), begin(), end(), bound(),
	}
}

// bounds are the bounds of repetitions, one of each kind.
var bounds = [][2]int{{0, -1}, {1, -1}, {2, -1}, {8, -1}, {0, 1}, {1, 1}, {0, 2}, {1, 2}, {3, 3}, {2, 8}, {8, 8}}

// grown returns all expressions whose root has the given expressions as subs: one for a repetition, up to two otherwise.
func grown(subs []api.Regex) []api.Regex {
	var l []api.Regex
	for _, a := range subs {
		l = append(l, cat(a))
		for _, b := range bounds {
			l = append(l, rep(a, b[0], b[1]))
		}
		for _, b := range subs {
			l = append(l, cat(a, b), alt(a, b))
		}
	}
	return l
}

// valid returns expressions for which Right returns OK: all of up to two levels with up to two subs, many of three levels, and others up to the limits.
func valid() []api.Regex {
	low := append(leaves(), grown(leaves())...)
	all := slices.Clone(low)
	for i, re := range low {
		// Each one with some others, which differ from one to the next.
		other, third := low[(i*37+11)%len(low)], low[(i*101+5)%len(low)]
		b := bounds[i%len(bounds)]
		all = append(all, cat(re, other), alt(other, re), cat(re), cat(other, re, third), alt(re, third, other), rep(re, b[0], b[1]), rep(cat(re, other), b[0], b[1]))
	}
	r := rand.New(rand.NewSource(8))
	for range 3000 {
		if re := mixed(r, 1+r.Intn(8)); rightOf(re) == api.OK {
			all = append(all, re)
		}
	}
	return append(all, nested(11, one('a')), nested(11, set(0, 255)), cat(times(39, one('x'))...), alt(times(39, dot())...))
}

// mixed returns an expression of at most so many levels, which can have too many nodes.
func mixed(r *rand.Rand, levels int) api.Regex {
	if levels == 1 {
		return leaves()[r.Intn(len(leaves()))]
	}
	var subs []api.Regex
	for range 1 + r.Intn(3) {
		subs = append(subs, mixed(r, 1+r.Intn(levels-1)))
	}
	switch n := r.Intn(3); {
	case n == 0:
		b := bounds[r.Intn(len(bounds))]
		return rep(subs[0], b[0], b[1])
	case n == 1 && len(subs) > 1:
		return alt(subs...)
	}
	return cat(subs...)
}

// invalid returns expressions for which Right does not return OK.
func invalid() []api.Regex {
	nodes := []api.Regex{
		{}, {Kind: -1}, {Kind: 8}, {Kind: math.MaxInt}, {Kind: math.MinInt},
		{Kind: api.ReSet}, set('b', 'a'), set('a', 'b', 9, 8), {Kind: api.ReSet, Set: []api.Range{{}}, Min: 1}, {Kind: api.ReSet, Set: []api.Range{{}}, Subs: []api.Regex{one('a')}},
		alt(), alt(one('a')), {Kind: api.ReRepeat, Max: 1}, {Kind: api.ReRepeat, Max: -1}, {Kind: api.ReRepeat, Max: 1, Subs: []api.Regex{one('a'), one('b')}},
		rep(one('a'), 0, 0), rep(one('a'), -1, -1), rep(one('a'), math.MaxInt, math.MaxInt), rep(one('a'), math.MinInt, math.MinInt), rep(one('a'), 3, 2), rep(one('a'), 9, -1), rep(cat(), 0, -2),
		{Kind: api.ReCat, Set: []api.Range{{Lo: 1}}}, {Kind: api.ReCat, Max: -1}, {Kind: api.ReAlt, Min: math.MinInt, Subs: times(2, one('a'))},
		{Kind: api.ReBegin, Subs: times(1, one('a'))}, {Kind: api.ReEnd, Max: -1}, {Kind: api.ReBound, Set: []api.Range{{Lo: 1, Hi: 2}}},
		nested(12, one('a')), cat(times(40, one('a'))...), nested(65535, one('a')), rep(nested(65534, one('a')), math.MaxInt, math.MaxInt), nested(65535, api.Regex{}),
		alt(times(9999, dot())...), cat(times(9999, alt())...),
	}
	all := slices.Clone(nodes)
	for _, re := range nodes {
		all = append(all, cat(one('a'), re), alt(re, one('a')), rep(re, 1, 2), rep(alt(cat(), cat(re)), math.MaxInt, 0))
	}
	return all
}

// TestFoldAndLengthsOfInvalid shows that they end: nothing else is promised there.
func TestFoldAndLengthsOfInvalid(t *testing.T) {
	for _, re := range invalid() {
		before := cloned(re)
		regex.Fold(re)
		regex.Lengths(re)
		if !equal(re, before) {
			t.Fatal("an argument has changed")
		}
		if s, err := regex.Print(re); s != "" || err != regex.Right(re) || err == api.OK {
			t.Errorf("Print of an expression that is not valid is %q, %d", s, err)
		}
	}
}

func TestExamples(t *testing.T) { // the chapter's examples
	for _, x := range []struct {
		s, printed  string
		re          api.Regex
		least, most int
	}{
		{"ab+c", "ab+c", cat(one('a'), rep(one('b'), 1, -1), one('c')), 3, -1},
		{"(a|b)c", "(a|b)c", cat(alt(one('a'), one('b')), one('c')), 2, 2},
		{"[c-ea-d]", "[a-e]", set('a', 'e'), 1, 1},
		{`[^\n]`, ".", dot(), 1, 1},
		{"[a]", "a", one('a'), 1, 1},
		{"a{0,}", "a*", rep(one('a'), 0, -1), 0, -1},
		{"", "", cat(), 0, 0},
		{"a|", "a|", alt(one('a'), cat()), 0, 1},
		{"()*", "()*", rep(cat(), 0, -1), 0, 0},
		{"[a-c]", "[a-c]", set('a', 'c'), 1, 1},
	} {
		re, err := regex.Parse(x.s)
		if err != api.OK || !equal(re, x.re) {
			t.Errorf("Parse(%q) is %v, %d", x.s, re, err)
		}
		if s, err := regex.Print(x.re); s != x.printed || err != api.OK {
			t.Errorf("Print of %q is %q, %d", x.s, s, err)
		}
		if least, most := regex.Lengths(x.re); least != x.least || most != x.most {
			t.Errorf("Lengths of %q are %d and %d", x.s, least, most)
		}
	}
	for s, want := range map[string]api.Errno{"a**": api.ErrForm, "(": api.ErrForm, "[]": api.ErrForm, "[b-a]": api.ErrForm, "a{01}": api.ErrForm, "a]": api.ErrForm, "a{0}": api.ErrRange, "a{3,2}": api.ErrRange} {
		if re, err := regex.Parse(s); err != want || !equal(re, api.Regex{}) {
			t.Errorf("Parse(%q) is %v, %d", s, re, err)
		}
	}
	if s, err := regex.Print(regex.Fold(set('a', 'c'))); s != "[A-Ca-c]" || err != api.OK {
		t.Errorf("the folded set is printed as %q, %d", s, err)
	}
}

// places returns the addresses of all elements of the lists of expressions, also of those behind the ends of the lists, as often as they occur.
func places(all ...api.Regex) []any {
	var l []any
	for _, re := range all {
		for ranges, i := re.Set[:cap(re.Set)], 0; i < len(ranges); i++ {
			l = append(l, &ranges[i])
		}
		subs := re.Subs[:cap(re.Subs)]
		for i := range subs {
			l = append(l, &subs[i])
		}
		l = append(l, places(subs...)...)
	}
	return l
}

// distinct reports whether no place occurs twice, and none of them is taken already.
func distinct(places, taken []any) bool {
	seen := map[any]bool{}
	for _, place := range taken {
		seen[place] = true
	}
	for _, place := range places {
		if seen[place] {
			return false
		}
		seen[place] = true
	}
	return true
}

func TestMemory(t *testing.T) { // DOC.md, 'Memory'; LANGUAGE.md, rule 7
	shared := set('a', 'c', 'x', 'y')
	for _, re := range append(valid(), cat(shared, shared, alt(shared, shared)), cat(cat(), cat()), set('x', 'y', 'a', 'a')) {
		before := cloned(re)
		first, _ := regex.Print(re)
		if !distinct(places(regex.Fold(re), regex.Fold(re)), places(re)) {
			t.Fatalf("what Fold returns for %v shares memory", re)
		}
		regex.Right(re)
		regex.Lengths(re)
		regex.Same(re, before)
		regex.Has(re.Set, 'b')
		if second, _ := regex.Print(re); first != second || !equal(re, before) {
			t.Fatalf("%v has changed to %v", before, re)
		}
	}
	for _, s := range []string{"", "a", "abc", "a|b|c", "()()|()", `\d\d\w\w..`, `[\d][\w][\d\w][^a][^a]`, "(a|b){2}(a|b){2}", "((a)(b))((c)(d)|(e))", strings.Repeat("(ab*|c)", 6), strings.Repeat("[ac]", 39)} {
		first, err := regex.Parse(s)
		second, _ := regex.Parse(s)
		if err != api.OK || !distinct(places(first, second), nil) {
			t.Errorf("what Parse(%q) returns shares memory, or is wrong: %d", s, err)
		}
	}
}
