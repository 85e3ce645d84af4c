package regexec_test

import (
	"math"
	"math/rand"
	"slices"
	"strings"
	"testing"

	"codesearch/api"
	"codesearch/regex"
	"codesearch/regexec"
)

// set returns a ReSet of ranges, of each of which the first and the last byte are given.
func set(ends ...byte) api.Regex {
	re := api.Regex{Kind: api.ReSet}
	for i := 0; i < len(ends); i += 2 {
		re.Set = append(re.Set, api.Range{Lo: ends[i], Hi: ends[i+1]})
	}
	return re
}

func one(c byte) api.Regex { return set(c, c) }

func cat(subs ...api.Regex) api.Regex { return api.Regex{Kind: api.ReCat, Subs: subs} }

func alt(subs ...api.Regex) api.Regex { return api.Regex{Kind: api.ReAlt, Subs: subs} }

func rep(sub api.Regex, least, most int) api.Regex {
	return api.Regex{Kind: api.ReRepeat, Min: least, Max: most, Subs: []api.Regex{sub}}
}

func begin() api.Regex { return api.Regex{Kind: api.ReBegin} }

func end() api.Regex { return api.Regex{Kind: api.ReEnd} }

func bound() api.Regex { return api.Regex{Kind: api.ReBound} }

// parsed returns the expression of a string.
func parsed(s string) api.Regex {
	re, err := regex.Parse(s)
	if err != api.OK {
		panic("no expression: " + s)
	}
	return re
}

// times returns n equal expressions.
func times(n int, re api.Regex) []api.Regex {
	var l []api.Regex
	for range n {
		l = append(l, cloned(re))
	}
	return l
}

// nested returns an expression with n repetitions around it.
func nested(n int, re api.Regex, least, most int) api.Regex {
	for range n {
		re = rep(re, least, most)
	}
	return re
}

// cloned returns a copy that shares no memory with the original.
func cloned(re api.Regex) api.Regex {
	re.Set = slices.Clone(re.Set)
	re.Subs = slices.Clone(re.Subs)
	for i := range re.Subs {
		re.Subs[i] = cloned(re.Subs[i])
	}
	return re
}

// relation tells for each two offsets of a string whether an expression matches from the first one to the second one.
type relation [][]bool

func newRelation(n int, holds func(i, j int) bool) relation {
	m := make(relation, n+1)
	for i := range m {
		m[i] = make([]bool, n+1)
		for j := range m[i] {
			m[i][j] = holds(i, j)
		}
	}
	return m
}

// then matches from i to j if a matches from i to some k and b from there to j.
func then(a, b relation) relation {
	m := newRelation(len(a)-1, func(i, j int) bool { return false })
	for i := range a {
		for k := range a {
			if !a[i][k] {
				continue
			}
			for j := range b {
				m[i][j] = m[i][j] || b[k][j]
			}
		}
	}
	return m
}

func either(a, b relation) relation {
	return newRelation(len(a)-1, func(i, j int) bool { return a[i][j] || b[i][j] })
}

// relationOf follows the chapter's definitions: of every kind, for all offsets of s.
func relationOf(re api.Regex, s string) relation {
	same := newRelation(len(s), func(i, j int) bool { return i == j })
	word := func(i int) bool {
		const all = "ABCDEFGHIJKLMNOPQRSTUVWXYZabcdefghijklmnopqrstuvwxyz0123456789_"
		return i >= 0 && i < len(s) && strings.IndexByte(all, s[i]) >= 0
	}
	switch re.Kind {
	case api.ReSet:
		return newRelation(len(s), func(i, j int) bool {
			return i < len(s) && j == i+1 && slices.ContainsFunc(re.Set, func(r api.Range) bool { return r.Lo <= s[i] && r.Hi >= s[i] })
		})
	case api.ReCat:
		m := same
		for _, sub := range re.Subs {
			m = then(m, relationOf(sub, s))
		}
		return m
	case api.ReAlt:
		m := relationOf(re.Subs[0], s)
		for _, sub := range re.Subs[1:] {
			m = either(m, relationOf(sub, s))
		}
		return m
	case api.ReRepeat:
		return powers(relationOf(re.Subs[0], s), same, re.Min, re.Max)
	case api.ReBegin:
		return newRelation(len(s), func(i, j int) bool { return i == j && (i == 0 || s[i-1] == 10) })
	case api.ReEnd:
		return newRelation(len(s), func(i, j int) bool { return i == j && (i == len(s) || s[i] == 10) })
	case api.ReBound:
		return newRelation(len(s), func(i, j int) bool { return i == j && word(i-1) != word(i) })
	}
	panic("no kind")
}

// powers returns in which offsets something matches n times, for n from least to most, or from least on if most is -1. A match of more than twice as many times as there are offsets has two equal times in which nothing is matched, which can be left out.
func powers(m, same relation, least, most int) relation {
	if most < 0 {
		most = least + 2*len(m)
	}
	power, all := same, newRelation(len(m)-1, func(i, j int) bool { return false })
	for n := range most + 1 {
		if n >= least {
			all = either(all, power)
		}
		power = then(power, m)
	}
	return all
}

// ends returns the ends of the matches that begin at an offset.
func (m relation) ends(at int) []int {
	var l []int
	for j := 0; at >= 0 && at < len(m) && j < len(m); j++ {
		if m[at][j] {
			l = append(l, j)
		}
	}
	return l
}

// find follows P9.3.
func (m relation) find(from int) (api.Span, bool) {
	for i := range m {
		if l := m.ends(i); i >= from && len(l) > 0 {
			return api.Span{At: i, End: slices.Max(l)}, true
		}
	}
	return api.Span{}, false
}

// all follows P9.4.
func (m relation) all() []api.Span {
	var spans []api.Span
	from := 0
	for {
		span, ok := m.find(from)
		if !ok {
			return spans
		}
		spans = append(spans, span)
		from = span.End
		if span.At == span.End {
			from++
		}
	}
}

// check compares all functions with the definitions, for all offsets and some beyond the string.
func check(t *testing.T, re api.Regex, s string) {
	t.Helper()
	m := relationOf(re, s)
	for at := -2; at <= len(s)+2; at++ {
		if got, want := regexec.Ends(re, s, at), m.ends(at); !slices.Equal(got, want) {
			t.Fatalf("Ends(%v, %q, %d) is %v, not %v", re, s, at, got, want)
		}
		got, ok := regexec.Find(re, s, at)
		if want, found := m.find(at); got != want || ok != found {
			t.Fatalf("Find(%v, %q, %d) is %v, %v, not %v, %v", re, s, at, got, ok, want, found)
		}
	}
	checkWithoutOffsets(t, re, s, m)
}

// checkWithoutOffsets compares the functions that are not given an offset.
func checkWithoutOffsets(t *testing.T, re api.Regex, s string, m relation) {
	t.Helper()
	_, found := m.find(0)
	if got := regexec.Match(re, s); got != found {
		t.Fatalf("Match(%v, %q) is %v", re, s, got)
	}
	if got := regexec.Whole(re, s); got != m[0][len(s)] {
		t.Fatalf("Whole(%v, %q) is %v", re, s, got)
	}
	if got, want := regexec.All(re, s), m.all(); !slices.Equal(got, want) {
		t.Fatalf("All(%v, %q) is %v, not %v", re, s, got, want)
	}
}

// leaves are expressions without subs, of every kind.
func leaves() []api.Regex {
	return []api.Regex{one('a'), one('b'), one('\n'), set(0, 9, 11, 255), set(0, 255), set('b', 'z', 'a', 'a', '0', '0'), cat(), begin(), end(), bound()}
}

// bounds are the bounds of repetitions, some of each kind.
var bounds = [][2]int{{0, -1}, {1, -1}, {2, -1}, {8, -1}, {0, 1}, {1, 1}, {0, 2}, {1, 2}, {2, 2}, {3, 3}, {2, 4}, {0, 8}, {8, 8}}

// grown returns all expressions whose root has the given expressions as subs: one for a repetition, up to two otherwise.
func grown(subs []api.Regex) []api.Regex {
	var l []api.Regex
	for _, a := range subs {
		l = append(l, cat(a))
		for _, b := range bounds {
			l = append(l, rep(a, b[0], b[1]))
		}
		for _, b := range subs {
			l = append(l, cat(a, b), alt(a, b))
		}
	}
	return l
}

// mixed returns an expression of at most so many levels.
func mixed(r *rand.Rand, levels int) api.Regex {
	if levels == 1 {
		return leaves()[r.Intn(len(leaves()))]
	}
	var subs []api.Regex
	for range 1 + r.Intn(3) {
		subs = append(subs, mixed(r, 1+r.Intn(levels-1)))
	}
	switch n := r.Intn(3); {
	case n == 0:
		b := bounds[r.Intn(len(bounds))]
		return rep(subs[0], b[0], b[1])
	case n == 1 && len(subs) > 1:
		return alt(subs...)
	}
	return cat(subs...)
}

// valid returns a mixed expression for which regex.Right returns OK.
func valid(r *rand.Rand) api.Regex {
	for {
		if re := mixed(r, 2+r.Intn(4)); regex.Right(re) == api.OK {
			return re
		}
	}
}

// madeString returns a string of so many of the given bytes.
func madeString(r *rand.Rand, n int, of string) string {
	b := make([]byte, n)
	for i := range b {
		b[i] = of[r.Intn(len(of))]
	}
	return string(b)
}

// stringsOf returns all strings of at most so many of the given bytes.
func stringsOf(of string, most int) []string {
	all := []string{""}
	last := all
	for range most {
		var next []string
		for _, s := range last {
			for i := range len(of) {
				next = append(next, s+of[i:i+1])
			}
		}
		all = append(all, next...)
		last = next
	}
	return all
}

// invalid returns expressions for which regex.Right does not return OK: in each way that it tells apart, alone and within others.
func invalid() []api.Regex {
	a := one('a')
	nodes := []api.Regex{
		{}, {Kind: -1}, {Kind: 8}, {Kind: math.MaxInt}, {Kind: math.MinInt}, {Kind: 8, Subs: times(2, a)},
		{Kind: api.ReSet}, set('b', 'a'), set('a', 'b', 9, 8),
		{Kind: api.ReSet, Set: a.Set, Min: 1}, {Kind: api.ReSet, Set: a.Set, Max: 1}, {Kind: api.ReSet, Set: a.Set, Subs: times(1, a)},
		alt(), alt(a), {Kind: api.ReRepeat, Max: 1}, {Kind: api.ReRepeat, Max: -1}, {Kind: api.ReRepeat, Max: 1, Subs: times(2, a)}, {Kind: api.ReRepeat, Max: 1, Set: a.Set, Subs: times(1, a)},
		rep(a, 0, 0), rep(a, -1, -1), rep(a, -1, 1), rep(a, 0, 9), rep(a, 9, -1), rep(a, 9, 9), rep(a, 3, 2), rep(a, 1, 0), rep(a, 0, -2), rep(cat(), 0, -2), rep(a, math.MaxInt, math.MaxInt), rep(a, math.MinInt, math.MinInt), rep(a, 0, math.MaxInt),
		{Kind: api.ReCat, Set: a.Set}, {Kind: api.ReCat, Max: -1}, {Kind: api.ReCat, Min: 1, Subs: times(1, a)}, {Kind: api.ReAlt, Min: math.MinInt, Subs: times(2, a)}, {Kind: api.ReAlt, Set: a.Set, Subs: times(2, a)},
		{Kind: api.ReBegin, Subs: times(1, a)}, {Kind: api.ReBegin, Min: 1}, {Kind: api.ReEnd, Max: -1}, {Kind: api.ReBound, Set: a.Set},
		nested(12, a, 1, -1), nested(12, cat(), 0, 1), cat(times(40, rep(a, 0, 1))...), alt(times(40, a)...),
		nested(65535, a, 0, -1), rep(nested(65534, a, 0, 1), math.MaxInt, math.MaxInt), nested(65535, api.Regex{}, 1, 1), cat(times(9999, alt())...),
	}
	all := slices.Clone(nodes)
	for _, re := range nodes {
		all = append(all, cat(cat(), re), alt(re, a), alt(a, re), rep(re, 0, 2), rep(alt(cat(), cat(re)), 0, -1))
	}
	return all
}

func TestInvalid(t *testing.T) { // P9.1, P9.2, P9.3, P9.4
	for _, re := range invalid() {
		for _, s := range []string{"", "a", "aaaaaaaaaa", "ab\na", strings.Repeat("a", 50)} {
			for _, at := range []int{math.MinInt, -1, 0, 1, len(s), len(s) + 1, math.MaxInt} {
				if got := regexec.Ends(re, s, at); len(got) != 0 {
					t.Fatalf("Ends of an expression that is not valid in %q at %d: %v", s, at, got)
				}
				if span, ok := regexec.Find(re, s, at); ok || span != (api.Span{}) {
					t.Fatalf("Find of an expression that is not valid in %q from %d: %v, %v", s, at, span, ok)
				}
			}
			if regexec.Match(re, s) || regexec.Whole(re, s) || len(regexec.All(re, s)) != 0 {
				t.Fatalf("an expression that is not valid matches in %q", s)
			}
		}
	}
}

func TestExamples(t *testing.T) { // the chapter's examples
	if span, ok := regexec.Find(parsed("ab+c"), "xabbc", 0); span != (api.Span{At: 1, End: 5}) || !ok {
		t.Errorf("ab+c: %v, %v", span, ok)
	}
	if at1, at0 := regexec.Ends(parsed("ab+c"), "xabbc", 1), regexec.Ends(parsed("ab+c"), "xabbc", 0); !slices.Equal(at1, []int{5}) || len(at0) != 0 {
		t.Errorf("ends of ab+c: %v, %v", at1, at0)
	}
	if got := regexec.All(parsed("a*"), "aab"); !slices.Equal(got, []api.Span{{At: 0, End: 2}, {At: 2, End: 2}, {At: 3, End: 3}}) {
		t.Errorf("all of a*: %v", got)
	}
	if got := regexec.All(parsed("a|ab"), "abab"); !slices.Equal(got, []api.Span{{At: 0, End: 2}, {At: 2, End: 4}}) {
		t.Errorf("all of a|ab: %v", got)
	}
	if span, ok := regexec.Find(parsed("^b"), "a\nb", 0); span != (api.Span{At: 2, End: 3}) || !ok {
		t.Errorf("^b: %v, %v", span, ok)
	}
	if foo := parsed(`\bfoo\b`); !regexec.Match(foo, "foo.bar") || regexec.Match(foo, "foobar") {
		t.Error("borders of words")
	}
}

// TestAllSmall compares all expressions of up to two levels, and many of three, with the definitions in all short strings.
func TestAllSmall(t *testing.T) { // P9.1, P9.2, P9.3, P9.4
	low := append(leaves(), grown(leaves())...)
	for _, re := range low {
		for _, s := range stringsOf("a.\n", 2) {
			check(t, re, s)
		}
	}
	all := stringsOf("ab\n", 4)
	for i, re := range low {
		// Each one with some others, which differ from one to the next.
		other := low[(i*37+11)%len(low)]
		b := bounds[i%len(bounds)]
		for k, whole := range []api.Regex{re, cat(re, other), alt(other, re), rep(re, b[0], b[1]), rep(cat(other, re), b[0], b[1]), cat(rep(alt(re, other), b[0], b[1]), other)} {
			check(t, whole, all[(i*101+k*29)%len(all)])
			check(t, whole, all[(i*53+k*31+7)%len(all)])
		}
	}
}

func TestMade(t *testing.T) { // P9.1, P9.2, P9.3, P9.4
	r := rand.New(rand.NewSource(9))
	for range 8000 {
		check(t, valid(r), madeString(r, r.Intn(9), "aab.\n"))
	}
	for range 1500 {
		check(t, valid(r), madeString(r, r.Intn(9), "\x00\n\x7f\x80\xff_a0"))
	}
	for range 200 {
		check(t, valid(r), madeString(r, 10+r.Intn(20), "aaab\n"))
	}
}

// TestMemory shows that arguments stay as they are, and that changing one result changes no other one.
func TestMemory(t *testing.T) { // DOC.md, 'Memory'; LANGUAGE.md, rule 7
	shared := set('a', 'a', 'c', 'd')
	r := rand.New(rand.NewSource(3))
	all := []api.Regex{parsed("a*"), cat(), cat(shared, shared), alt(shared, cat(shared, shared)), rep(shared, 2, 3), rep(rep(shared, 0, -1), 1, 8)}
	for range 300 {
		all = append(all, valid(r))
	}
	for _, re := range all {
		const s = "aac\nad"
		before := cloned(re)
		wantEnds, wantSpans := relationOf(re, s).ends(0), relationOf(re, s).all()
		ends, spans := regexec.Ends(re, s, 0), regexec.All(re, s)
		for i := range ends[:cap(ends)] {
			ends[:cap(ends)][i] = 77
		}
		for i := range spans[:cap(spans)] {
			spans[:cap(spans)][i] = api.Span{At: 7, End: 77}
		}
		regexec.Match(re, s)
		regexec.Whole(re, s)
		regexec.Find(re, s, 1)
		if got := regexec.Ends(re, s, 0); !slices.Equal(got, wantEnds) {
			t.Fatalf("the second time Ends(%v) is %v, not %v", re, got, wantEnds)
		}
		if got := regexec.All(re, s); !slices.Equal(got, wantSpans) {
			t.Fatalf("the second time All(%v) is %v, not %v", re, got, wantSpans)
		}
		if !regex.Same(re, before) {
			t.Fatalf("%v has changed to %v", before, re)
		}
	}
}
