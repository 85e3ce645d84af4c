package regram_test

import (
	"slices"
	"strings"
	"testing"

	"codesearch/api"
	"codesearch/regex"
	"codesearch/regexec"
	"codesearch/regram"
)

// powersOf returns the strings of from to to times a string.
func powersOf(s string, from, to int) []string {
	var l []string
	for n := from; n <= to; n++ {
		l = append(l, strings.Repeat(s, n))
	}
	return l
}

// checkLiterals compares the literals of an expression with a list; without one there are none.
func checkLiterals(t *testing.T, name string, re api.Regex, want []string) {
	t.Helper()
	if err := regex.Right(re); err != api.OK {
		t.Fatalf("%s is not valid: %v", name, err)
	}
	list, ok := regram.Literals(re)
	if !slices.Equal(list, want) || ok != (len(want) > 0) {
		t.Errorf("literals of %s: %q, %v, not %q", name, list, ok, want)
	}
}

func TestLiteralsOfKinds(t *testing.T) { // P10.1
	for i, x := range []struct {
		re   api.Regex
		want []string
	}{
		{cat(), []string{""}},
		{cat(cat(), cat()), []string{""}},
		{cat(one('a')), []string{"a"}},
		{cat(cat(one('a')), cat(one('b'), cat())), []string{"ab"}},
		{alt(cat(), cat()), []string{""}},
		{alt(one('a'), cat()), []string{"", "a"}},
		{begin(), nil},
		{end(), nil},
		{bound(), nil},
		{cat(begin(), one('a')), nil},
		{cat(one('a'), end()), nil},
		{cat(one('a'), bound(), one('b')), nil},
		{alt(begin(), one('a')), nil},
		{alt(one('a'), end()), nil},
		{rep(bound(), 0, 1), nil},
		{rep(begin(), 1, 1), nil},
		{set('a', 'h'), []string{"a", "b", "c", "d", "e", "f", "g", "h"}},
		{set('a', 'i'), nil},
		{set('a', 'e', 'c', 'h'), []string{"a", "b", "c", "d", "e", "f", "g", "h"}},
		{set('a', 'e', 'd', 'i'), nil},
		{set('x', 'x', 'a', 'a', 'x', 'x'), []string{"a", "x"}},
		{set('c', 'c', 'a', 'b'), []string{"a", "b", "c"}},
		{set(0, 3, 252, 255), []string{"\x00", "\x01", "\x02", "\x03", "\xfc", "\xfd", "\xfe", "\xff"}},
		{set(0, 4, 252, 255), nil},
		{set(0, 255), nil},
		{set('A', 'D', 'a', 'd'), []string{"A", "B", "C", "D", "a", "b", "c", "d"}},
		{set('A', 'D', 'a', 'e'), nil},
		{set('a', 'a', 'A', 'A'), []string{"A", "a"}},
		{bytes("\x00\n\x7f\x80\xff"), []string{"\x00\n\x7f\x80\xff"}},
		{alt(one(255), one(128), one(127), one(10), one(0)), []string{"\x00", "\n", "\x7f", "\x80", "\xff"}},
		{alt(bytes("a\xff"), bytes("a"), bytes("a\x00"), one('b'), bytes("A")), []string{"A", "a", "a\x00", "a\xff", "b"}},
	} {
		checkLiterals(t, "expression "+string(rune('A'+i)), x.re, x.want)
	}
	for c := range 256 {
		checkLiterals(t, "a byte", one(byte(c)), []string{string([]byte{byte(c)})})
	}
}

// TestLiteralsOfStrings has expressions that package regex reads.
func TestLiteralsOfStrings(t *testing.T) { // P10.1
	for s, want := range map[string][]string{
		"foo": {"foo"}, "Foo": {"Foo"}, "": {""}, "a|": {"", "a"}, "()": {""}, "b|a|ab": {"a", "ab", "b"},
		"[ab][cd][ef]":      {"ace", "acf", "ade", "adf", "bce", "bcf", "bde", "bdf"},
		"[abcd][ef]":        {"ae", "af", "be", "bf", "ce", "cf", "de", "df"},
		"[a-h]x":            {"ax", "bx", "cx", "dx", "ex", "fx", "gx", "hx"},
		"(x|xy)(yz|z)":      {"xyyz", "xyz", "xz"},
		"(a|aa)(a|aa)":      {"aa", "aaa", "aaaa"},
		"(a|aa|aaa){2}":     powersOf("a", 2, 6),
		"a{0,3}a{0,4}":      powersOf("a", 0, 7),
		"a{0,7}a":           powersOf("a", 1, 8),
		"a{0,6}a?":          powersOf("a", 0, 7),
		"a{8}b{8}":          {"aaaaaaaabbbbbbbb"},
		"a{8}b{8}()":        {"aaaaaaaabbbbbbbb"},
		"(a{8}|b)(c{8}|d)":  {"aaaaaaaacccccccc", "aaaaaaaad", "bcccccccc", "bd"},
		"([a-d]|[e-h])":     {"a", "b", "c", "d", "e", "f", "g", "h"},
		"([a-h]|a|h|d)":     {"a", "b", "c", "d", "e", "f", "g", "h"},
		"(a|b|c|d|e|f|g|h)": {"a", "b", "c", "d", "e", "f", "g", "h"},
		"(a|a)A":            {"aA"},
		"(a|A)b":            {"Ab", "ab"},
		"a?":                {"", "a"},
		"a{1}":              {"a"},
		"a{3}":              {"aaa"},
		"a{0,7}":            powersOf("a", 0, 7),
		"a{1,8}":            powersOf("a", 1, 8),
		"a{2,5}":            powersOf("a", 2, 5),
		"[ab]{3}":           {"aaa", "aab", "aba", "abb", "baa", "bab", "bba", "bbb"},
		"[ab]{1,2}":         {"a", "aa", "ab", "b", "ba", "bb"},
		"[ab]{0,2}":         {"", "a", "aa", "ab", "b", "ba", "bb"},
		"(a|aa){1,4}":       powersOf("a", 1, 8),
		"(a|aa){0,3}":       powersOf("a", 0, 6),
		"(a|aa){3,5}":       powersOf("a", 3, 10),
		"(a|aa){4,5}":       powersOf("a", 4, 10),
		"(a{4}){4}":         powersOf("a", 16, 16),
		"(a{4}){1,4}":       {"aaaa", "aaaaaaaa", "aaaaaaaaaaaa", "aaaaaaaaaaaaaaaa"},
		"(a{8}){0,2}":       {"", "aaaaaaaa", "aaaaaaaaaaaaaaaa"},
		"(abc){5}":          powersOf("abc", 5, 5),
		"(){8}":             {""},
		"(){0,8}":           {""},
		"(()|a){7}":         powersOf("a", 0, 7),
		"(a?){2,7}":         powersOf("a", 0, 7),
		"(ab?c|d)?x":        {"abcx", "acx", "dx", "x"},
	} {
		checkLiterals(t, s, parsed(s), want)
	}
	for _, s := range []string{
		"a+", "a*", "a{2,}", "a{0,}", "()*", "()+", "(){3,}", "^", "$", `\b`, ".", `\w`, `\d`, "[^a]",
		"[abc][abc]", "[a-h][xy]", "[abc][abc]()", "()[abc]{2}", "[abc][abc]a", "a{0,3}a{0,5}", "a{0,7}a?", "(a|aa|aaa|aaaa){3}",
		"a{8}b{8}c", "a{8}b{8}c?", "a{8}b{8}(c|)", "a{8}b{8}c{0,2}", "(a{8}b{8}|a)b", "(a{8}|b)(c{8}|d)e", "a{8}b{8}c()", "x(a{8}b{8}|a)", "abcdefghijklmnopq",
		"([a-h]|i)", "([a-h]|i|a)", "(a|b|c|d|e|f|g|h|i)", "([a-d]|[e-i])", "(i|[a-h])", "([abc][abc]|a)", "(a|.)", "(.|a)", "(a|b+|c)", "(a|^)",
		"a{0,8}", "[ab]{1,3}", "[ab]{2,3}", "[ab]{3,4}", "[ab]{4}", "[ab]{0,3}", "(a|aa){1,5}", "(a|aa){0,4}", "(a|aa){8}", "(abc){6}", "(abc){5,6}", "(a{4}){4,5}", "(a{4}){5}", "(a{4}){1,5}", "(()|a){8}", "(()|a){0,8}",
		".?", "(a+)?", "(a+){2}", "(^)?", "[a-i]?", "[a-i]{1}", "(a{8}b{8}c)?",
	} {
		checkLiterals(t, s, parsed(s), nil)
	}
}

// TestLengthsOfStrings has sequences and repetitions of each number of bytes up to 20.
func TestLengthsOfStrings(t *testing.T) { // P10.1
	const all = "abcdefghijklmnopqrst"
	for n := range 21 {
		s := all[:n]
		want := []string{s}
		if n > 16 {
			want = nil
		}
		checkLiterals(t, "so many bytes", bytes(s), want)
		for at := range n + 1 {
			checkLiterals(t, "two sequences", cat(bytes(s[:at]), bytes(s[at:])), want)
			checkLiterals(t, "a sequence after the empty string", cat(cat(), bytes(s[:at]), cat(), bytes(s[at:]), cat()), want)
		}
		for count := 1; count <= 8; count++ {
			var want []string
			if n*count <= 16 {
				want = powersOf(s, count, count)
			}
			checkLiterals(t, "a repetition", rep(bytes(s), count, count), want)
		}
	}
}

func TestLiteralsByDefinition(t *testing.T) { // P10.1
	has, hasNone := 0, 0
	visitValid(func(re api.Regex) {
		want, exists := literalsOf(re, false)
		list, ok := regram.Literals(re)
		if ok != exists || ok && !slices.Equal(list, want.sorted()) || !ok && len(list) > 0 {
			t.Fatalf("literals of %v: %q, %v, not %q, %v", re, list, ok, want.sorted(), exists)
		}
		if ok {
			has++
		} else {
			hasNone++
		}
	})
	if has < 5000 || hasNone < 5000 {
		t.Errorf("%d expressions with literals, %d without", has, hasNone)
	}
}

// TestLiteralsMatch tries all short strings, the literals, and strings that differ from them a little.
func TestLiteralsMatch(t *testing.T) { // P10.7
	short := []string{""}
	for i := 0; len(short[i]) < 3; i++ {
		for _, c := range []string{"a", "b", "B", "c", "f", "\xff"} {
			short = append(short, short[i]+c)
		}
	}
	count := 0
	visitValid(func(re api.Regex) {
		list, ok := regram.Literals(re)
		if !ok {
			return
		}
		tried := list
		count++
		switch {
		case count%200 == 0:
			tried = slices.Concat(list, short)
		case count%20 == 0:
			tried = slices.Concat(list, short[:43])
		}
		for _, s := range tried {
			for _, near := range []string{s, s + "a", strings.ToUpper(s), "b" + s, s[:len(s)/2]} {
				if got, want := regexec.Whole(re, near), slices.Contains(list, near); got != want {
					t.Fatalf("%v with the literals %q: Whole of %q is %v", re, list, near, got)
				}
			}
		}
	})
}
