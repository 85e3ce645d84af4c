package regexec_test

import (
	"math/rand"
	"slices"
	"strings"
	"testing"

	"codesearch/api"
	"codesearch/regex"
	"codesearch/regexec"
)

// union returns the elements of the lists in increasing order, each once.
func union(lists ...[]int) []int {
	all := slices.Concat(lists...)
	slices.Sort(all)
	return slices.Compact(all)
}

// endsFromEach returns the ends of re from each of the offsets.
func endsFromEach(re api.Regex, s string, from []int) []int {
	var all []int
	for _, at := range from {
		all = union(all, regexec.Ends(re, s, at))
	}
	return all
}

// checkEqual compares the ends of an expression with other ones.
func checkEqual(t *testing.T, re api.Regex, s string, at int, want []int) {
	t.Helper()
	if regex.Right(re) != api.OK {
		return
	}
	if got := regexec.Ends(re, s, at); !slices.Equal(got, want) {
		t.Fatalf("Ends(%v, %q, %d) is %v, not %v", re, s, at, got, want)
	}
}

// pairs calls visit with expressions in twos, strings and offsets.
func pairs(visit func(a, b api.Regex, s string, at int)) {
	r := rand.New(rand.NewSource(6))
	low := append(leaves(), grown(leaves())...)
	all := stringsOf("ab\n", 4)
	for i, a := range low {
		b, s := low[(i*59+23)%len(low)], all[(i*67)%len(all)]
		visit(a, b, s, i%(len(s)+1))
	}
	for range 1500 {
		s := madeString(r, r.Intn(12), "aab_\n")
		visit(valid(r), valid(r), s, r.Intn(len(s)+1))
	}
}

func TestSequencesAndAlternatives(t *testing.T) { // P9.6
	pairs(func(a, b api.Regex, s string, at int) {
		first, second := regexec.Ends(a, s, at), regexec.Ends(b, s, at)
		checkEqual(t, cat(a, b), s, at, endsFromEach(b, s, first))
		checkEqual(t, cat(b, a), s, at, endsFromEach(a, s, second))
		checkEqual(t, alt(a, b), s, at, union(first, second))
		checkEqual(t, alt(b, a), s, at, union(first, second))
		checkEqual(t, cat(a), s, at, first)
	})
}

// TestRepetitionsAsSequences compares a repetition with copies and optional ones, and one without a bound with one that has a bound.
func TestRepetitionsAsSequences(t *testing.T) { // P9.7
	pairs(func(a, _ api.Regex, s string, at int) {
		copies := []int{at} // the ends of m copies
		for least := range 9 {
			if least > 0 {
				copies = endsFromEach(a, s, copies)
			}
			optional := copies // those of the further optional ones too
			for most := least; most <= least+len(s); most++ {
				if most > least {
					optional = union(optional, endsFromEach(a, s, optional))
				}
				if most <= 8 && most > 0 {
					checkEqual(t, rep(a, least, most), s, at, optional)
					checkEqual(t, cat(append(times(least, a), times(most-least, rep(a, 0, 1))...)...), s, at, optional)
				}
			}
			checkEqual(t, rep(a, least, -1), s, at, optional)
			if least+len(s) <= 8 && least+len(s) > 0 {
				checkEqual(t, rep(a, least, -1), s, at, regexec.Ends(rep(a, least, least+len(s)), s, at))
			}
		}
	})
}

// checkLong compares all functions with the definitions in a long string, at the given offsets.
func checkLong(t *testing.T, re api.Regex, s string, offsets []int) {
	t.Helper()
	m := relationOf(re, s)
	for _, at := range offsets {
		if got, want := regexec.Ends(re, s, at), m.ends(at); !slices.Equal(got, want) {
			t.Fatalf("Ends(%v, %q, %d) is %v, not %v", re, s, at, got, want)
		}
		got, ok := regexec.Find(re, s, at)
		if want, found := m.find(at); got != want || ok != found {
			t.Fatalf("Find(%v, %q, %d) is %v, %v, not %v, %v", re, s, at, got, ok, want, found)
		}
	}
	checkWithoutOffsets(t, re, s, m)
}

// TestMadeLong has strings of more offsets than a word of a machine, or a few of them, have bits.
func TestMadeLong(t *testing.T) { // P9.1, P9.2, P9.3, P9.4
	r := rand.New(rand.NewSource(4))
	edges := []int{0, 1, 31, 32, 63, 64, 65, 100, 127, 128, 129, 191, 192, 193, 254, 255, 256, 257, 258, 300}
	for range 60 {
		// Repetitions of as many times as there are offsets would take too long to define them step by step.
		re := valid(r)
		for strings.Contains(kindsOf(re), "*") {
			re = valid(r)
		}
		checkLong(t, re, madeString(r, 255+r.Intn(4), "aaaaab\n"), edges)
	}
}

// kindsOf names the repetitions without a bound in an expression by asterisks.
func kindsOf(re api.Regex) string {
	s := ""
	if re.Kind == api.ReRepeat && re.Max < 0 {
		s = "*"
	}
	for _, sub := range re.Subs {
		s += kindsOf(sub)
	}
	return s
}

// TestLongNamed has matches over the borders of words of a machine, and of some of them.
func TestLongNamed(t *testing.T) { // P9.1, P9.2, P9.3, P9.4
	const n = 1100
	s := strings.Repeat("a", n)
	for at := range n + 1 {
		var want []int
		for j := at; j <= n; j++ {
			want = append(want, j)
		}
		if got := regexec.Ends(parsed("a*"), s, at); !slices.Equal(got, want) {
			t.Fatalf("a* at %d: %v", at, got)
		}
		if got := regexec.Ends(parsed("a"), s, at); at < n && !slices.Equal(got, []int{at + 1}) || at == n && len(got) > 0 {
			t.Fatalf("a at %d: %v", at, got)
		}
		if span, ok := regexec.Find(parsed("a{8}"), s, at); ok != (at+8 <= n) || ok && span != (api.Span{At: at, End: at + 8}) {
			t.Fatalf("a{8} from %d: %v, %v", at, span, ok)
		}
		one := s[:at] + "b" + s[at:]
		if span, ok := regexec.Find(parsed("b"), one, 0); !ok || span != (api.Span{At: at, End: at + 1}) {
			t.Fatalf("b at %d: %v, %v", at, span, ok)
		}
		if got := regexec.Ends(parsed("a*b|a|()"), one, 0); !slices.Equal(got, union([]int{0, 1, at + 1})) {
			t.Fatalf("a*b|a|() with b at %d: %v", at, got) // the ends further on are reached first
		}
		if got := regexec.Ends(parsed("a*(b|$)"), one, 0); !slices.Equal(got, []int{at + 1}) {
			t.Fatalf("a*(b|$) with b at %d: %v", at, got)
		}
		if !regexec.Whole(parsed("a*ba*"), one) || regexec.Whole(parsed("a*"), one) {
			t.Fatalf("the whole string with b at %d", at)
		}
	}
	if got := regexec.All(parsed("a{7}"), s); len(got) != n/7 || got[n/7-1] != (api.Span{At: n/7*7 - 7, End: n / 7 * 7}) {
		t.Errorf("all of a{7}: %v", got)
	}
	if got := regexec.All(parsed("()"), s); len(got) != n+1 || got[n] != (api.Span{At: n, End: n}) {
		t.Errorf("all of (): %v", got)
	}
}

// TestVeryLong has strings in which time for each pair of offsets would be too long.
func TestVeryLong(t *testing.T) { // P9.1, P9.2, P9.3, P9.4
	const n = 200000
	a, lines := strings.Repeat("a", n), strings.Repeat("foo bar_1\n", n/10)
	for _, x := range []struct {
		re, s string
		all   int
		first api.Span
	}{
		{"a*", a, 2, api.Span{End: n}},
		{"(a*)*", a, 2, api.Span{End: n}},
		{"((a|aa)*|a{3,8})+", a, 2, api.Span{End: n}},
		{"(a|aa)*b", a, 0, api.Span{}},
		{"a+a+a+b", a, 0, api.Span{}},
		{"a*b", a + "b", 1, api.Span{End: n + 1}},
		{"(.|\\n)*1", lines, 1, api.Span{End: n - 1}},
		{`\bb\w*$`, lines, n / 10, api.Span{At: 4, End: 9}},
		{"^foo.*1$", lines, n / 10, api.Span{End: 9}},
		{"o+", lines, n / 10, api.Span{At: 1, End: 3}},
	} {
		re := parsed(x.re)
		spans := regexec.All(re, x.s)
		if len(spans) != x.all || regexec.Match(re, x.s) != (x.all > 0) || x.all > 0 && spans[0] != x.first {
			t.Errorf("all of %q: %d, the first one %v", x.re, len(spans), spans[:min(1, len(spans))])
		}
		if span, ok := regexec.Find(re, x.s, 0); ok != (x.all > 0) || span != x.first {
			t.Errorf("Find of %q: %v, %v", x.re, span, ok)
		}
		if got, want := regexec.Whole(re, x.s), x.first == (api.Span{End: len(x.s)}); got != want {
			t.Errorf("Whole of %q: %v", x.re, got)
		}
	}
	if got := regexec.Ends(parsed("a*"), a, 7); len(got) != n-6 || got[0] != 7 || got[n-7] != n {
		t.Errorf("%d ends of a*", len(got))
	}
}
