package regexec_test

import (
	"math"
	"slices"
	"strings"
	"testing"

	"codesearch/api"
	"codesearch/regexec"
)

func TestMatchAndWholeNamed(t *testing.T) { // P9.2
	for _, x := range []struct {
		re, s        string
		match, whole bool
	}{
		{"", "", true, true},
		{"", "a", true, false},
		{"()*", "", true, true},
		{"()*", "a", true, false},
		{"(|())", "ab", true, false},
		{"a*", "", true, true},
		{"a*", "b", true, false}, // only the empty string matches
		{"a*", "aaa", true, true},
		{"a*", "aab", true, false},
		{"a*", "baa", true, false},
		{"a", "", false, false},
		{"a", "a", true, true},
		{"a", "b", false, false},
		{"a", "ba", true, false}, // at the end only
		{"a", "ab", true, false}, // at the beginning only
		{"a", "bab", true, false},
		{"a", "A", false, false},
		{"ab", "a", false, false}, // a part of the expression
		{"ab", "aab", true, false},
		{"a|ab", "ab", true, true}, // the second alternative is longer
		{"ab|a", "ab", true, true},
		{"a|b", "ab", true, false},
		{"(a|b)*", "abba", true, true},
		{"(a|ab)(c|bcd)", "abcd", true, true},
		{"a?b?", "ab", true, true},
		{"^", "", true, true},
		{"^", "a", true, false},
		{"$", "a", true, false},
		{"^$", "", true, true},
		{"^$", "a", false, false},
		{"^$", "a\n", true, false},
		{"^$", "\n", true, false},
		{"^$", "a\n\nb", true, false},
		{"^a$", "a", true, true},
		{"^a$", "b\na\nb", true, false},
		{"$^", "", true, true},
		{"$^", "ab", false, false},
		{`\b`, "", false, false},
		{`\b`, "a", true, false},
		{`\b`, " ", false, false},
		{`\b`, " a", true, false},
		{`a\b`, "a", true, true},
		{`\ba`, "a", true, true},
		{`a\bb`, "ab", false, false},
		{"a$", "a\n", true, false},
		{".*", "ab", true, true},
		{".*", "a\nb", true, false},
		{".", "\n", false, false},
		{"a{2,3}", "a", false, false},
		{"a{2,3}", "aa", true, true},
		{"a{2,3}", "aaa", true, true},
		{"a{2,3}", "aaaa", true, false},
		{"(ab){2}", "abab", true, true},
		{"(ab){2}", "aba", false, false},
	} {
		re := parsed(x.re)
		if match, whole := regexec.Match(re, x.s), regexec.Whole(re, x.s); match != x.match || whole != x.whole {
			t.Errorf("%q in %q: Match %v, Whole %v", x.re, x.s, match, whole)
		}
		check(t, re, x.s)
	}
}

func TestFindNamed(t *testing.T) { // P9.3
	for _, x := range []struct {
		re, s    string
		from     int
		at, last int // -1 and -1 if there is no match
	}{
		{"ab+c", "xabbc", 0, 1, 5},
		{"ab+c", "xabbc", 1, 1, 5},
		{"ab+c", "xabbc", 2, -1, -1}, // the match begins before from
		{"a", "abca", 1, 3, 4},
		{"a", "abca", 0, 0, 1},
		{"a", "abca", -1, 0, 1},
		{"a", "abca", -100, 0, 1},
		{"a", "abca", math.MinInt, 0, 1},
		{"a", "abca", 3, 3, 4},
		{"a", "abca", 4, -1, -1},
		{"a", "abca", 5, -1, -1},
		{"a", "abca", math.MaxInt, -1, -1},
		{"a", "abca", math.MaxInt - 3, -1, -1},
		{"a*", "baa", 0, 0, 0}, // the empty match is further on the left
		{"a*", "baa", 1, 1, 3},
		{"a*", "baa", 2, 2, 3}, // not all of the a's
		{"a*", "baa", 3, 3, 3}, // at the end of the string
		{"a*", "baa", 4, -1, -1},
		{"a*", "baa", math.MaxInt, -1, -1},
		{"a*", "baa", math.MinInt, 0, 0},
		{"", "", 0, 0, 0},
		{"", "", 1, -1, -1},
		{"", "", -1, 0, 0},
		{"", "", math.MinInt, 0, 0},
		{"", "", math.MaxInt, -1, -1},
		{"", "ab", 1, 1, 1},
		{"", "ab", 2, 2, 2},
		{"", "ab", 3, -1, -1},
		{"a|aaaa", "ab aaaa", 0, 0, 1}, // a longer match further on
		{"a|aaaa", "ab aaaa", 1, 3, 7},
		{"a|ab|abc", "abcd", 0, 0, 3}, // shorter alternatives stand first
		{"abc|ab|a", "abd", 0, 0, 2},
		{"a|abcd", "abc", 0, 0, 1}, // the longer one does not match
		{"|a", "a", 0, 0, 1},
		{"(|a)(|b)", "ab", 0, 0, 2},
		{"(a|ab)(c|bcd)(d*)", "abcd", 0, 0, 4},
		{"(ab|a)(bc)?", "abc", 0, 0, 3}, // a and bc are longer than ab alone
		{"b|abc", "abd", 0, 1, 2},
		{"$", "ab", 0, 2, 2},
		{"$", "ab", 2, 2, 2},
		{"$", "ab", 3, -1, -1},
		{"$", "a\nb", 0, 1, 1},
		{"$", "a\nb", 2, 3, 3},
		{"^", "ab", 0, 0, 0},
		{"^", "ab", 1, -1, -1}, // from is not the beginning of the string
		{"^", "a\nb", 1, 2, 2},
		{"^b", "bb", 1, -1, -1},
		{"^b", "a\nb", 0, 2, 3},
		{"^b", "a\nb", 2, 2, 3},
		{"^b", "a\nb", 3, -1, -1},
		{`\bb`, "ab b", 1, 3, 4}, // the byte before from counts
		{`\bb`, "ab b", 2, 3, 4},
		{`\bfoo\b`, "foobar foo", 0, 7, 10},
		{`\b`, "  ab", 0, 2, 2},
		{`\b`, "  ab", 3, 4, 4},
		{`.*`, "ab\ncd", 1, 1, 2},
		{`.*`, "ab\ncd", 2, 2, 2},
		{`.*`, "ab\ncd", 3, 3, 5},
		{"b+", "abbb", 2, 2, 4},
		{"(ab)+", "xababx", 0, 1, 5},
		{"(ab)+", "xababx", 2, 3, 5},
		{"x", "", 0, -1, -1},
	} {
		re := parsed(x.re)
		span, ok := regexec.Find(re, x.s, x.from)
		if want := (api.Span{At: x.at, End: x.last}); ok && span != want || ok != (x.at >= 0) {
			t.Errorf("Find(%q, %q, %d) is %v, %v", x.re, x.s, x.from, span, ok)
		}
		if !ok && span != (api.Span{}) {
			t.Errorf("Find(%q, %q, %d) finds nothing, and returns %v", x.re, x.s, x.from, span)
		}
		check(t, re, x.s)
	}
}

func TestAllNamed(t *testing.T) { // P9.4
	for _, x := range []struct {
		re, s string
		want  []api.Span
	}{
		{"a*", "aab", []api.Span{{At: 0, End: 2}, {At: 2, End: 2}, {At: 3, End: 3}}},
		{"a*", "baab", []api.Span{{At: 0, End: 0}, {At: 1, End: 3}, {At: 3, End: 3}, {At: 4, End: 4}}},
		{"a*", "aa", []api.Span{{At: 0, End: 2}, {At: 2, End: 2}}}, // an empty one at the end
		{"a*", "", []api.Span{{}}},
		{"a*", "b", []api.Span{{}, {At: 1, End: 1}}},
		{"a?", "aab", []api.Span{{At: 0, End: 1}, {At: 1, End: 2}, {At: 2, End: 2}, {At: 3, End: 3}}},
		{"", "", []api.Span{{}}},
		{"", "ab", []api.Span{{}, {At: 1, End: 1}, {At: 2, End: 2}}},
		{"a", "", nil},
		{"a", "bcd", nil},
		{"a", "a", []api.Span{{At: 0, End: 1}}},
		{"a", "aaa", []api.Span{{At: 0, End: 1}, {At: 1, End: 2}, {At: 2, End: 3}}}, // they touch
		{"a", "bab a", []api.Span{{At: 1, End: 2}, {At: 4, End: 5}}},
		{"a+", "aabaaa", []api.Span{{At: 0, End: 2}, {At: 3, End: 6}}},
		{"a|ab", "abab", []api.Span{{At: 0, End: 2}, {At: 2, End: 4}}},
		{"aa", "aaaaa", []api.Span{{At: 0, End: 2}, {At: 2, End: 4}}}, // one that would overlap is none
		{"aba", "ababa", []api.Span{{At: 0, End: 3}}},
		{"aba|b", "ababab", []api.Span{{At: 0, End: 3}, {At: 3, End: 4}, {At: 5, End: 6}}},
		{"^", "a\nb\n", []api.Span{{}, {At: 2, End: 2}, {At: 4, End: 4}}},
		{"$", "a\nb\n", []api.Span{{At: 1, End: 1}, {At: 3, End: 3}, {At: 4, End: 4}}},
		{"^.*$", "ab\n\nc", []api.Span{{At: 0, End: 2}, {At: 3, End: 3}, {At: 4, End: 5}}},
		{"^b", "bbb", []api.Span{{At: 0, End: 1}}}, // no further search begins a line
		{`\b`, "ab c", []api.Span{{}, {At: 2, End: 2}, {At: 3, End: 3}, {At: 4, End: 4}}},
		{`\b`, "", nil},
		{`\w+`, "ab c_1-", []api.Span{{At: 0, End: 2}, {At: 3, End: 6}}},
		{`\bb`, "bbb b", []api.Span{{At: 0, End: 1}, {At: 4, End: 5}}},
		{"$|b", "ab", []api.Span{{At: 1, End: 2}, {At: 2, End: 2}}}, // an empty one touches another one
		{"()|ab", "abab", []api.Span{{At: 0, End: 2}, {At: 2, End: 4}, {At: 4, End: 4}}},
		{"()|ab", "xab", []api.Span{{}, {At: 1, End: 3}, {At: 3, End: 3}}}, // right after an empty one
		{"a.c", "abcadc", []api.Span{{At: 0, End: 3}, {At: 3, End: 6}}},
		{".*", "a\nb", []api.Span{{At: 0, End: 1}, {At: 1, End: 1}, {At: 2, End: 3}, {At: 3, End: 3}}},
		{"(.|\\n)*", "a\nb", []api.Span{{At: 0, End: 3}, {At: 3, End: 3}}},
	} {
		re := parsed(x.re)
		if got := regexec.All(re, x.s); !slices.Equal(got, x.want) {
			t.Errorf("All(%q, %q) is %v, not %v", x.re, x.s, got, x.want)
		}
		check(t, re, x.s)
	}
}

// checkRelations compares the functions with each other, as the consequences say.
func checkRelations(t *testing.T, re api.Regex, s string) {
	t.Helper()
	for from := -1; from <= len(s)+1; from++ {
		span, ok := regexec.Find(re, s, from)
		first := len(s) + 1
		if ok {
			first = span.At
			if ends := regexec.Ends(re, s, span.At); span.At < max(from, 0) || len(ends) == 0 || ends[len(ends)-1] != span.End {
				t.Fatalf("Find(%v, %q, %d) is %v, the ends there %v", re, s, from, span, ends)
			}
		}
		for i := max(from, 0); i < first; i++ {
			if ends := regexec.Ends(re, s, i); len(ends) > 0 {
				t.Fatalf("Find(%v, %q, %d) misses the match at %d", re, s, from, i)
			}
		}
	}
	if _, ok := regexec.Find(re, s, 0); ok != regexec.Match(re, s) {
		t.Fatalf("Match(%v, %q) and Find differ", re, s)
	}
	last := api.Span{At: -1, End: -1}
	for _, span := range regexec.All(re, s) {
		if span.At < last.End || span.End < span.At || span == last || span.End > len(s) {
			t.Fatalf("All(%v, %q) has %v after %v", re, s, span, last)
		}
		last = span
	}
}

func TestFindAndAllOfAll(t *testing.T) { // P9.5, P9.8
	low := append(leaves(), grown(leaves())...)
	all := stringsOf("ab\n", 4)
	for i, re := range low {
		other := low[(i*41+3)%len(low)]
		for k, whole := range []api.Regex{re, cat(other, re), alt(re, other), rep(alt(re, cat(other, re)), 1, -1)} {
			checkRelations(t, whole, all[(i*89+k*17)%len(all)])
		}
	}
	for _, s := range []string{"", "a", "ab", strings.Repeat("ab", 40), strings.Repeat("a\n", 70)} {
		for _, re := range []string{"", "a", "a*", "ab|a", "(a|ab)*", "^", "$", `\b`, "^a*$", ".*b", "(ab)*", "()|ab", "^|b"} {
			checkRelations(t, parsed(re), s)
		}
	}
}
