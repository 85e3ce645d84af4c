package regexec_test

import (
	"math"
	"slices"
	"strings"
	"testing"

	"codesearch/api"
	"codesearch/regexec"
)

// endsCase is an expression, a string, an offset and the ends of the matches there.
type endsCase struct {
	re   api.Regex
	s    string
	at   int
	want []int
}

func checkEnds(t *testing.T, cases []endsCase) {
	t.Helper()
	for _, x := range cases {
		if got := regexec.Ends(x.re, x.s, x.at); !slices.Equal(got, x.want) {
			t.Errorf("Ends(%v, %q, %d) is %v, not %v", x.re, x.s, x.at, got, x.want)
		}
		if len(x.s) < 50 {
			check(t, x.re, x.s)
		}
	}
}

func TestEndsOffsets(t *testing.T) { // P9.1
	star, empty := parsed("a*"), cat()
	checkEnds(t, []endsCase{
		{star, "aab", 0, []int{0, 1, 2}},
		{star, "aab", 1, []int{1, 2}},
		{star, "aab", 2, []int{2}},
		{star, "aab", 3, []int{3}},
		{star, "aab", 4, nil},
		{star, "aab", 5, nil},
		{star, "aab", -1, nil},
		{star, "aab", -2, nil},
		{star, "aab", math.MinInt, nil},
		{star, "aab", math.MinInt + 1, nil},
		{star, "aab", math.MaxInt, nil},
		{star, "aab", math.MaxInt - 1, nil},
		{star, "", 0, []int{0}},
		{star, "", 1, nil},
		{star, "", -1, nil},
		{star, "", math.MinInt, nil},
		{star, "", math.MaxInt, nil},
		{empty, "", 0, []int{0}},
		{empty, "ab", 0, []int{0}},
		{empty, "ab", 2, []int{2}},
		{empty, "ab", 3, nil},
		{empty, "ab", -1, nil},
		{one('a'), "", 0, nil},
		{one('a'), "a", 0, []int{1}},
		{one('a'), "a", 1, nil},
		{one('a'), "a", 2, nil},
		{begin(), "a", -1, nil},
		{end(), "a", 2, nil},
		{bound(), "a", -1, nil},
		{bound(), "a", 2, nil},
		{bound(), "a", math.MaxInt, nil},
		{rep(begin(), 0, -1), "a", -1, nil},
	})
}

func TestEndsKinds(t *testing.T) { // P9.1
	a, b, ab := one('a'), one('b'), parsed("ab")
	checkEnds(t, []endsCase{
		{ab, "abab", 0, []int{2}},
		{ab, "abab", 1, nil},
		{ab, "abab", 2, []int{4}},
		{ab, "aba", 2, nil}, // the string ends before the second sub
		{cat(a), "aa", 0, []int{1}},
		{cat(cat(), cat()), "aa", 1, []int{1}},
		{cat(cat(a), cat(), cat(b)), "ab", 0, []int{2}},
		{cat(a, rep(a, 0, -1), a), "aaaa", 0, []int{2, 3, 4}},
		{cat(rep(a, 0, -1), rep(a, 0, -1)), "aaa", 0, []int{0, 1, 2, 3}},
		{parsed("a*ab"), "aaab", 0, []int{4}}, // the first sub gives back what the second one needs
		{parsed("a?a?a?aaa"), "aaa", 0, []int{3}},
		{parsed("(a|ab)(c|bcd)"), "abcd", 0, []int{3, 4}},
		{parsed("(a|ab)(c|bcd)"), "abce", 0, []int{3}},
		{alt(a, b), "ab", 0, []int{1}},
		{alt(a, b), "ab", 1, []int{2}},
		{alt(a, b), "c", 0, nil},
		{alt(a, a, a), "a", 0, []int{1}}, // the same end of several subs
		{alt(cat(), cat()), "a", 1, []int{1}},
		{alt(cat(), a, ab), "ab", 0, []int{0, 1, 2}},
		{alt(ab, a, cat()), "ab", 0, []int{0, 1, 2}}, // the longest one first
		{parsed("abc|a|abc|ab|a"), "abcd", 0, []int{1, 2, 3}},
		{parsed("a*|b*|a"), "aab", 0, []int{0, 1, 2}},
		{parsed("a*|b*|a"), "aab", 2, []int{2, 3}},
		{alt(a, begin(), end(), bound()), "a", 0, []int{0, 1}},
		{alt(alt(a, cat()), alt(cat(), cat(a, a))), "aa", 0, []int{0, 1, 2}},
	})
}

func TestEndsRepetitions(t *testing.T) { // P9.1
	a, empty := one('a'), cat()
	s := strings.Repeat("a", 10)
	upTo := func(first, last int) []int {
		var l []int
		for ; first <= last; first++ {
			l = append(l, first)
		}
		return l
	}
	for least := range 9 {
		checkEnds(t, []endsCase{
			{rep(a, least, -1), s, 0, upTo(least, 10)},
			{rep(a, least, -1), s, 7, upTo(7+least, 10)},
			{rep(a, least, -1), s[:5] + "b" + s, 1, upTo(1+least, 5)},
			{rep(empty, least, -1), s, 4, []int{4}},
			{rep(rep(a, 0, 1), least, -1), s, 3, upTo(3, 10)},
			{rep(rep(a, 0, -1), least, -1), s, 3, upTo(3, 10)},
		})
		for most := max(least, 1); most <= 8; most++ {
			checkEnds(t, []endsCase{
				{rep(a, least, most), s, 0, upTo(least, most)},
				{rep(a, least, most), s, 9, upTo(9+least, min(9+most, 10))},
				{rep(a, least, most), s[:least], 0, upTo(least, least)},
				{rep(a, least, most), "b", 0, upTo(least, 0)},
				{rep(empty, least, most), s, 10, []int{10}},
				{rep(rep(a, 0, 1), least, most), s, 0, upTo(0, most)},
				{rep(rep(a, 1, 1), least, most), s, 0, upTo(least, most)},
				{rep(begin(), least, most), s, 0, []int{0}},
				{rep(begin(), least, most), s, 1, upTo(1, 1-least)}, // it matches there only if repeated no times
				{rep(alt(a, end()), least, most), s, 10, []int{10}},
			})
		}
	}
	checkEnds(t, []endsCase{
		{parsed("(ab)*"), "ababa", 0, []int{0, 2, 4}},
		{parsed("(ab)+"), "ababa", 0, []int{2, 4}},
		{parsed("(ab)+"), "ababa", 1, nil},
		{parsed("(ab){2}"), "ababab", 0, []int{4}},
		{parsed("(ab){2,}"), "ababab", 0, []int{4, 6}},
		{parsed("(a|bb)*"), "abba", 0, []int{0, 1, 3, 4}},
		{parsed("(aa|aaa)*"), "aaaaaaa", 0, []int{0, 2, 3, 4, 5, 6, 7}},
		{parsed("(aa|aaa){2}"), "aaaaaaa", 0, []int{4, 5, 6}},
		{parsed("(aaa|aaaaa){1,2}"), strings.Repeat("a", 12), 0, []int{3, 5, 6, 8, 10}},
		{parsed("(aa){2,3}"), "aaaaaaaa", 1, []int{5, 7}},
		{parsed("((a{2}){2}){2}"), "aaaaaaaaa", 0, []int{8}},
		{parsed("((aa){1,2}){2}"), "aaaaaaaaa", 0, []int{4, 6, 8}},
		{parsed("((a{2,3}){2,})?"), "aaaaaa", 0, []int{0, 4, 5, 6}},
		{parsed("(a{2})*"), "aaaaa", 0, []int{0, 2, 4}},
		{parsed("((a|b)*c)*"), "abcbca", 0, []int{0, 3, 5}},
		{parsed(`(^a\n?)*`), "a\na\nba", 0, []int{0, 1, 2, 3, 4}},
		{parsed(`(a$|^b|\n)*`), "a\nb\nb", 0, []int{0, 1, 2, 3, 4, 5}},
		{parsed(`(\ba|a\b)*`), "aaa", 0, []int{0, 1}},
		{parsed(`(\ba|a|a\b){3}`), "aaa", 0, []int{3}},
		{parsed("(a|^){3}"), "aaaa", 0, []int{0, 1, 2, 3}}, // the empty match at 0 only
		{parsed("(a|^){3}"), "aaaa", 1, []int{4}},
		{parsed("(a|$){2}"), "aa", 0, []int{2}},
		{parsed("(a|$){2}"), "aa", 1, []int{2}},
		{parsed("(a|$){3}"), "aa", 0, []int{2}},
		{parsed("(a|$){2,3}"), "aaaa", 0, []int{2, 3}},
		{parsed(`(a|\n|$){3}`), "a\na\na", 0, []int{1, 2, 3}},
	})
}

func TestEndsOfLinesAndWords(t *testing.T) { // P9.1
	const lines = "\nab\n\nc" // line feeds at 0, 3 and 4; its length is 6
	for at, want := range []struct{ begin, end bool }{{true, true}, {true, false}, {false, false}, {false, true}, {true, true}, {true, false}, {false, true}} {
		if got := regexec.Ends(begin(), lines, at); len(got) > 0 != want.begin {
			t.Errorf("^ at %d: %v", at, got)
		}
		if got := regexec.Ends(end(), lines, at); len(got) > 0 != want.end {
			t.Errorf("$ at %d: %v", at, got)
		}
		if got := regexec.Ends(cat(begin(), end()), lines, at); len(got) > 0 != (want.begin && want.end) {
			t.Errorf("^$ at %d: %v", at, got)
		}
	}
	checkEnds(t, []endsCase{
		{begin(), "", 0, []int{0}}, {end(), "", 0, []int{0}}, {bound(), "", 0, nil},
		{begin(), "\n", 1, []int{1}}, {end(), "\n", 0, []int{0}}, {end(), "\n", 1, []int{1}},
		{begin(), "\r\n", 1, nil}, {end(), "a\r\n", 1, nil}, // only line feeds end lines
		{begin(), "a\rb", 2, nil},
		{bound(), "a", 0, []int{0}}, {bound(), "a", 1, []int{1}},
		{bound(), "-", 0, nil}, {bound(), "-", 1, nil},
		{bound(), "a-", 1, []int{1}}, {bound(), "-a", 1, []int{1}}, {bound(), "ab", 1, nil}, {bound(), "--", 1, nil},
		{bound(), "aZ", 1, nil}, {bound(), "_9", 1, nil}, {bound(), "a_", 1, nil}, {bound(), "z0", 1, nil},
		{bound(), "a\n", 1, []int{1}}, {bound(), "a\xc3", 1, []int{1}}, {bound(), "\xc3\xa9", 1, nil}, {bound(), "\xff", 0, nil},
		{cat(bound(), bound()), "a", 0, []int{0}},
		{cat(begin(), begin(), end(), end()), "", 0, []int{0}},
		{parsed(`a$\n^b`), "a\nb", 0, []int{3}},
		{parsed("a$b"), "ab", 0, nil}, {parsed("a^b"), "ab", 0, nil},
		{parsed(`\n^\n`), "\n\n", 0, []int{2}},
		{parsed(`.`), "\n", 0, nil}, {parsed(".*"), "ab\ncd", 0, []int{0, 1, 2}}, {parsed(`(.|\n)*`), "a\nb", 0, []int{0, 1, 2, 3}},
		{parsed(`\bab\b`), "ab", 0, []int{2}}, {parsed(`\bab\b`), "ab_", 0, nil}, {parsed(`\bab\b`), "1ab", 1, nil}, {parsed(`\bab\b`), ".ab.", 1, []int{3}},
	})
}

// TestEndsOfCase shows that case matters.
func TestEndsOfCase(t *testing.T) { // P9.1
	checkEnds(t, []endsCase{
		{one('a'), "A", 0, nil}, {one('A'), "a", 0, nil}, {one('A'), "A", 0, []int{1}},
		{set('a', 'z'), "M", 0, nil}, {parsed("foo"), "Foo", 0, nil},
	})
}

// TestEachByteInSets compares all sets of one range in the string of all bytes.
func TestEachByteInSets(t *testing.T) { // P9.1, P9.4
	var all []byte
	for c := range 256 {
		all = append(all, byte(c))
	}
	for lo := range 256 {
		for hi := lo; hi < 256; hi++ {
			spans := regexec.All(set(byte(lo), byte(hi)), string(all))
			if len(spans) != hi-lo+1 || spans[0] != (api.Span{At: lo, End: lo + 1}) || spans[hi-lo] != (api.Span{At: hi, End: hi + 1}) {
				t.Fatalf("the bytes of %d to %d: %v", lo, hi, spans)
			}
		}
	}
	edges := []byte{0, 9, 10, 11, 'a', 126, 127, 128, 254, 255}
	for _, c := range edges {
		for _, re := range []api.Regex{one(c), set(0, c), set(c, 255), set(0, 255), set('z', 'z', c, c), set(c, c, 0, 0, c, c), set(0, 9, 11, 255)} {
			for _, d := range edges {
				check(t, re, string([]byte{d}))
				check(t, rep(re, 0, -1), string([]byte{d, c, d, d}))
			}
		}
	}
	many := api.Regex{Kind: api.ReSet, Set: make([]api.Range, 100000)}
	for i := range many.Set {
		many.Set[i] = api.Range{Lo: byte(i % 250), Hi: byte(i % 250)}
	}
	if got := regexec.Ends(rep(many, 0, -1), string(all), 248); !slices.Equal(got, []int{248, 249, 250}) {
		t.Errorf("of a set with many ranges: %v", got)
	}
}

// TestEachByteBesideLinesAndWords compares ^ and $ beside each byte, and \b between each two.
func TestEachByteBesideLinesAndWords(t *testing.T) { // P9.1
	word := func(c int) bool {
		return c >= '0' && c <= '9' || c >= 'A' && c <= 'Z' || c == '_' || c >= 'a' && c <= 'z'
	}
	matches := func(re api.Regex, s string, at int) bool {
		got := regexec.Ends(re, s, at)
		if len(got) > 1 || len(got) == 1 && got[0] != at {
			t.Errorf("Ends(%v, %q, %d) is %v", re, s, at, got)
		}
		return len(got) == 1
	}
	for c := range 256 {
		s := string([]byte{byte(c)})
		if matches(begin(), s+"x", 1) != (c == 10) || !matches(begin(), s, 0) || matches(begin(), s, 1) != (c == 10) {
			t.Errorf("^ beside %d", c)
		}
		if matches(end(), "x"+s, 1) != (c == 10) || !matches(end(), s, 1) || matches(end(), s, 0) != (c == 10) {
			t.Errorf("$ beside %d", c)
		}
		if matches(bound(), s, 0) != word(c) || matches(bound(), s, 1) != word(c) {
			t.Errorf("\\b beside %d", c)
		}
		for d := range 256 {
			if matches(bound(), string([]byte{byte(c), byte(d)}), 1) != (word(c) != word(d)) {
				t.Errorf("\\b between %d and %d", c, d)
			}
		}
	}
}

// power returns b multiplied n times.
func power(b, n int) int {
	p := 1
	for range n {
		p *= b
	}
	return p
}

// TestRepetitionsOfRepetitions has up to 8^11 times of an expression.
func TestRepetitionsOfRepetitions(t *testing.T) { // P9.1, P9.2
	a := one('a')
	s := strings.Repeat("a", 520)
	for _, levels := range []int{1, 2, 3, 9, 11} {
		for _, b := range [][2]int{{2, 2}, {3, 3}, {8, 8}, {1, 2}, {1, 8}, {3, 4}, {2, -1}, {8, -1}} {
			least, most := min(power(b[0], levels), len(s)+1), len(s)
			if b[1] > 0 {
				most = min(most, power(b[1], levels))
			}
			// From some length on, every length up to the greatest one; before it, those that are between the powers of both bounds.
			re := nested(levels, a, b[0], b[1])
			got := regexec.Ends(re, s, 0)
			if least > most && len(got) > 0 || least <= most && (len(got) == 0 || got[0] != least || got[len(got)-1] != most) {
				t.Fatalf("%d to %d, %d levels: from %v to %v", b[0], b[1], levels, got[:min(1, len(got))], got[max(0, len(got)-1):])
			}
			if regexec.Whole(re, s[:min(least, len(s))]) != (least <= len(s)) || regexec.Match(re, s[:min(least, len(s)+1)-1]) {
				t.Fatalf("%d to %d, %d levels: not the least length", b[0], b[1], levels)
			}
		}
	}
	for _, x := range []struct {
		sub    api.Regex
		levels int
	}{{cat(), 11}, {parsed("a?"), 10}, {parsed("a*"), 10}, {begin(), 11}, {parsed("a|()"), 10}, {parsed("a|^"), 10}, {parsed("^|$|a"), 10}, {bound(), 11}, {parsed(`(\b|a)b?`), 8}} {
		for _, b := range bounds {
			for _, s := range []string{"", "a", "aaa", "aab\na", "ba", strings.Repeat("a", 20)} {
				re := nested(x.levels, x.sub, b[0], b[1])
				// After so many times as there are offsets nothing changes any more, so that fewer levels have the same matches.
				fewer := nested(min(x.levels, 6), x.sub, b[0], b[1])
				m := relationOf(fewer, s)
				checkWithoutOffsets(t, re, s, m)
				for at := range len(s) + 1 {
					if got := regexec.Ends(re, s, at); !slices.Equal(got, m.ends(at)) {
						t.Fatalf("Ends(%v, %q, %d) is %v, not %v", re, s, at, got, m.ends(at))
					}
				}
			}
		}
	}
}
