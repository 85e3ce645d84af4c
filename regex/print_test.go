package regex_test

import (
	"math"
	"strings"
	"testing"

	"codesearch/api"
	"codesearch/regex"
)

// canonicalOf follows the definition of the canonical string; the expression is valid.
func canonicalOf(re api.Regex) (string, bool) {
	switch re.Kind {
	case api.ReSet:
		return setString(re.Set)
	case api.ReCat:
		if len(re.Subs) == 1 {
			return "", false
		}
	case api.ReBegin:
		return "^", true
	case api.ReEnd:
		return "$", true
	case api.ReBound:
		return `\b`, true
	}
	s := ""
	for i, sub := range re.Subs {
		part, ok := canonicalOf(sub)
		if !ok {
			return "", false
		}
		enclosed := sub.Kind == api.ReAlt || re.Kind != api.ReAlt && sub.Kind == api.ReCat || re.Kind == api.ReRepeat && sub.Kind == api.ReRepeat
		if enclosed {
			part = "(" + part + ")"
		}
		if re.Kind == api.ReAlt && i > 0 {
			part = "|" + part
		}
		s += part
	}
	if re.Kind == api.ReRepeat {
		s += boundsString(re.Min, re.Max)
	}
	return s, true
}

func boundsString(least, most int) string {
	digits := "012345678"
	switch [2]int{least, most} {
	case [2]int{0, -1}:
		return "*"
	case [2]int{1, -1}:
		return "+"
	case [2]int{0, 1}:
		return "?"
	case [2]int{least, -1}:
		return "{" + digits[least:least+1] + ",}"
	case [2]int{least, least}:
		return "{" + digits[least:least+1] + "}"
	}
	return "{" + digits[least:least+1] + "," + digits[most:most+1] + "}"
}

// setString follows the definition for a ReSet.
func setString(ranges []api.Range) (string, bool) {
	for i := 1; i < len(ranges); i++ {
		if int(ranges[i].Lo)-int(ranges[i-1].Hi) < 2 {
			return "", false
		}
	}
	in := bytesOf(ranges)
	if c := ranges[0].Lo; len(ranges) == 1 && c == ranges[0].Hi && writable(c) {
		return byteString(c, `\.*+?()[]{}|^$`), true
	}
	if others := rangesOf(without(in)); len(others) == 1 && others[0] == (api.Range{Lo: 10, Hi: 10}) {
		return ".", true
	}
	for _, x := range []struct {
		open   string
		ranges []api.Range
	}{{"[", ranges}, {"[^", rangesOf(without(in))}} {
		if s, ok := rangesString(x.ranges); ok {
			return x.open + s + "]", true
		}
	}
	return "", false
}

func writable(c byte) bool { return c == 9 || c == 10 || c >= 32 && c <= 126 }

func byteString(c byte, escaped string) string {
	switch {
	case c == 9:
		return `\t`
	case c == 10:
		return `\n`
	case strings.Contains(escaped, string(rune(c))):
		return `\` + string(rune(c))
	}
	return string(rune(c))
}

// rangesString returns the string of ranges; false if there are none, or one of them cannot be written.
func rangesString(ranges []api.Range) (string, bool) {
	s := ""
	for _, r := range ranges {
		if !writable(r.Lo) || !writable(r.Hi) {
			return "", false
		}
		s += byteString(r.Lo, `\[]^-`)
		if r.Lo != r.Hi {
			s += "-" + byteString(r.Hi, `\[]^-`)
		}
	}
	return s, len(ranges) > 0
}

// checkPrint compares Print with the definition, and Parse of the string with the expression (P8.7). It reports whether there is a string.
func checkPrint(t *testing.T, re api.Regex) bool {
	t.Helper()
	want, ok := canonicalOf(re)
	wantErr := api.OK
	if !ok || len(want) > 300 {
		want, wantErr = "", api.ErrForm
	}
	got, err := regex.Print(re)
	if got != want || err != wantErr {
		t.Fatalf("Print(%v) is %q, %d, not %q, %d", re, got, err, want, wantErr)
	}
	if err != api.OK {
		return false
	}
	if back, err := regex.Parse(got); err != api.OK || !equal(back, re) {
		t.Fatalf("Parse(%q) is %v, %d, not %v", got, back, err, re)
	}
	return true
}

func TestPrintSets(t *testing.T) { // P8.3
	for _, x := range []struct {
		re   api.Regex
		want string
	}{
		{one('a'), "a"}, {one(' '), " "}, {one('~'), "~"}, {one('-'), "-"}, {one(','), ","}, {one('/'), "/"}, {one('_'), "_"}, {one('"'), `"`},
		{one(9), `\t`}, {one(10), `\n`},
		{one('\\'), `\\`}, {one('.'), `\.`}, {one('*'), `\*`}, {one('+'), `\+`}, {one('?'), `\?`}, {one('('), `\(`}, {one(')'), `\)`}, {one('['), `\[`}, {one(']'), `\]`}, {one('{'), `\{`}, {one('}'), `\}`}, {one('|'), `\|`}, {one('^'), `\^`}, {one('$'), `\$`},
		{dot(), "."},
		{digit(), "[0-9]"},
		{wordByte(), "[0-9A-Z_a-z]"},
		{set('a', 'b'), "[a-b]"},
		{set('a', 'z'), "[a-z]"},
		{set('a', 'a', 'c', 'c'), "[ac]"},
		{set('a', 'b', 'd', 'e'), "[a-bd-e]"},
		{set('a', 'a', 'c', 'e', 'z', 'z'), "[ac-ez]"},
		{set(32, 126), "[ -~]"},
		{set(9, 10), `[\t-\n]`},
		{set(9, 126), `[\t-~]`}, // only the ends matter
		{set(10, 32), `[\n- ]`},
		{set(9, 9, 32, 32), `[\t ]`},
		{set(10, 10, 'a', 'a'), `[\na]`},
		{set('-', '-', 'a', 'a'), `[\-a]`},
		{set('+', '-'), `[+-\-]`},
		{set('-', '/'), `[\--/]`},
		{set('[', ']'), `[\[-\]]`},
		{set('\\', '\\', '^', '^'), `[\\\^]`},
		{set('\\', '^'), `[\\-\^]`},
		{set('$', '$', '(', '+', '.', '.', '?', '?', '{', '}'), "[$(-+.?{-}]"},
		{set(0, 'a'-1, 'a'+1, 255), "[^a]"},
		{set(0, 8, 10, 255), `[^\t]`},
		{set(0, 8, 11, 255), `[^\t-\n]`},
		{set(0, 9, 11, 31, 33, 255), `[^\n ]`},
		{set(0, 31, 127, 255), "[^ -~]"},
		{set(0, 8, 127, 255), `[^\t-~]`},
		{set(0, '+', '.', 255), `[^,-\-]`},
		{set(0, 'Z', '_', 255), `[^\[-\^]`},
		{set(0, '@', 'C', 'C', 'E', 'Z', '_', 255), `[^A-BD\[-\^]`},
		{set(0, 'a', 'z', 255), "[^b-y]"},
		{set(0, 'a', 'c', 255), "[^b]"},
	} {
		checkPrint(t, x.re)
		if s, err := regex.Print(x.re); s != x.want || err != api.OK {
			t.Errorf("Print(%v) is %q, %d, not %q", x.re, s, err, x.want)
		}
	}
}

func TestPrintSetsWithoutString(t *testing.T) { // P8.3
	for _, re := range []api.Regex{
		one(0), one(8), one(11), one(31), one(127), one(128), one(255),
		set(0, 255),
		set(0, 9), set(0, 'a'), set('a', 127), set('a', 255), set(8, 9), set(9, 11), set(10, 11), set(31, 'a'), set('z', 128),
		set(0, 10, 12, 255), set(0, 126, 128, 255), set(0, 30, 32, 255), set(1, 255), set(0, 254), set(1, 254), set(0, 0, 255, 255), // nor the others
		set(0, 9, 11, 254), set(1, 9, 11, 255), set(0, 9, 11, 11, 13, 255), // nearly all but 10
		set('a', 'a', 127, 127), set(0, 0, 'a', 'a'), set(0, 'a', 'c', 254), set(0, 7, 9, 255), set(0, 8, 12, 255), set(0, 'a', 128, 255),
		set('a', 'a', 'b', 'b'), set('a', 'b', 'c', 'd'), set('a', 'a', 'b', 'd'), // they touch
		set('a', 'c', 'b', 'd'), set('a', 'c', 'c', 'd'), set('a', 'z', 'c', 'd'), set('a', 'a', 'a', 'a'), set('a', 'b', 'a', 'b'), // they overlap
		set('c', 'c', 'a', 'a'), set('x', 'z', 'a', 'c'), set('b', 'b', 'a', 'a'), // not in order
		set('a', 'a', 'c', 'c', 'd', 'd'), set('a', 'a', 'c', 'c', 'b', 'b'), set('a', 'a', 'e', 'e', 'c', 'c'),
		set(0, 9, 11, 20, 21, 255), set(0, 9, 11, 255, 255, 255), set(11, 255, 0, 9), set(0, 8, 9, 9, 11, 255), set(0, 9, 0, 9, 11, 255), // all but 10
		set(0, 'a', 'c', 254, 255, 255), set('c', 255, 0, 'a'), // all but b
		set(254, 255, 0, 1), set(255, 255, 0, 0), set(255, 255, 1, 1), set(254, 254, 0, 'a'), // 255 + 2 is beyond the greatest byte
		set('a', 255, 0, 0), set('a', 254, 0, 0), set('b', 255, 'b', 'b'),
	} {
		if s, err := regex.Print(re); s != "" || err != api.ErrForm {
			t.Errorf("Print(%v) is %q, %d", re, s, err)
		}
		// What has a part without a string has none either.
		for _, outer := range []api.Regex{cat(one('a'), re), cat(re, one('a')), alt(one('a'), re), alt(re, one('a')), rep(re, 0, -1), cat(begin(), rep(alt(cat(), re), 1, 2))} {
			if s, err := regex.Print(outer); s != "" || err != api.ErrForm {
				t.Errorf("Print(%v) is %q, %d", outer, s, err)
			}
		}
	}
}

// TestPrintEverySet has each byte, all others, each range, all others, and pairs of ranges of bytes that matter.
func TestPrintEverySet(t *testing.T) { // P8.3, P8.7
	printed := 0
	for lo := range 256 {
		for hi := lo; hi < 256; hi++ {
			if checkPrint(t, set(byte(lo), byte(hi))) {
				printed++
			}
			if others := rangesOf(without(bytesOf(set(byte(lo), byte(hi)).Set))); len(others) > 0 && checkPrint(t, api.Regex{Kind: api.ReSet, Set: others}) {
				printed++
			}
		}
	}
	if printed != 2*97*98/2 { // 97 bytes can be written
		t.Errorf("%d ranges are printed", printed)
	}
	edges := []byte{0, 1, 8, 9, 10, 11, 12, 31, 32, 33, '+', ',', '-', '.', 'Z', '[', '\\', ']', '^', '_', 'a', 'b', 'c', 125, 126, 127, 128, 254, 255}
	for _, a := range edges {
		for _, b := range edges {
			for _, c := range edges {
				for _, d := range edges {
					if a <= b && c <= d {
						checkPrint(t, set(a, b, c, d))
					}
				}
			}
		}
	}
	for i, a := range edges {
		for j := i + 1; j < len(edges); j++ {
			for k := j + 1; k < len(edges); k++ {
				in := bytesOf(set(a, a, edges[j], edges[j], edges[k], edges[k]).Set)
				checkPrint(t, api.Regex{Kind: api.ReSet, Set: rangesOf(in)})
				checkPrint(t, api.Regex{Kind: api.ReSet, Set: rangesOf(without(in))})
			}
		}
	}
}

func TestPrintNamed(t *testing.T) { // P8.3
	for _, x := range []struct {
		re   api.Regex
		want string
	}{
		{cat(), ""},
		{begin(), "^"},
		{end(), "$"},
		{bound(), `\b`},
		{letters("ab"), "ab"},
		{letters("a.b-c\n"), `a\.b-c\n`},
		{cat(begin(), one('a'), end()), "^a$"},
		{cat(cat(), cat()), "()()"},
		{cat(cat(), one('a')), "()a"},
		{cat(one('a'), cat()), "a()"},
		{cat(letters("ab"), one('c')), "(ab)c"},
		{cat(one('a'), letters("bc")), "a(bc)"},
		{cat(cat(letters("ab"), one('c')), one('d')), "((ab)c)d"},
		{cat(alt(one('a'), one('b')), one('c')), "(a|b)c"},
		{cat(rep(one('a'), 0, -1), rep(one('b'), 1, -1)), "a*b+"},
		{cat(bound(), bound()), `\b\b`},
		{alt(one('a'), one('b')), "a|b"},
		{alt(one('a'), one('b'), one('c')), "a|b|c"},
		{alt(letters("ab"), letters("cd")), "ab|cd"},
		{alt(cat(), cat()), "|"},
		{alt(cat(), cat(), cat()), "||"},
		{alt(one('a'), cat()), "a|"},
		{alt(cat(), one('a')), "|a"},
		{alt(alt(one('a'), one('b')), one('c')), "(a|b)|c"},
		{alt(one('a'), alt(one('b'), one('c'))), "a|(b|c)"},
		{alt(rep(one('a'), 0, -1), begin()), "a*|^"},
		{alt(cat(cat(), one('b')), end()), "()b|$"},
		{alt(cat(alt(one('a'), one('b')), one('c')), one('d')), "(a|b)c|d"},
		{rep(one('a'), 0, -1), "a*"},
		{rep(one('a'), 1, -1), "a+"},
		{rep(one('a'), 2, -1), "a{2,}"},
		{rep(one('a'), 8, -1), "a{8,}"},
		{rep(one('a'), 0, 1), "a?"},
		{rep(one('a'), 0, 2), "a{0,2}"},
		{rep(one('a'), 0, 8), "a{0,8}"},
		{rep(one('a'), 1, 1), "a{1}"},
		{rep(one('a'), 1, 2), "a{1,2}"},
		{rep(one('a'), 2, 2), "a{2}"},
		{rep(one('a'), 3, 7), "a{3,7}"},
		{rep(one('a'), 8, 8), "a{8}"},
		{rep(cat(), 0, -1), "()*"},
		{rep(letters("ab"), 0, -1), "(ab)*"},
		{rep(alt(one('a'), one('b')), 1, -1), "(a|b)+"},
		{rep(alt(cat(), cat()), 0, 1), "(|)?"},
		{rep(rep(one('a'), 0, -1), 0, -1), "(a*)*"},
		{rep(rep(rep(one('a'), 2, 2), 1, -1), 0, 1), "((a{2})+)?"},
		{rep(begin(), 0, -1), "^*"},
		{rep(end(), 1, -1), "$+"},
		{rep(bound(), 2, 3), `\b{2,3}`},
		{rep(dot(), 0, -1), ".*"},
		{rep(one('*'), 0, -1), `\**`},
		{rep(set('a', 'b'), 2, -1), "[a-b]{2,}"},
		{rep(set(0, 'a'-1, 'a'+1, 255), 0, 1), "[^a]?"},
	} {
		checkPrint(t, x.re)
		if s, err := regex.Print(x.re); s != x.want || err != api.OK {
			t.Errorf("Print(%v) is %q, %d, not %q", x.re, s, err, x.want)
		}
	}
	for least := range 9 {
		checkPrint(t, rep(one('a'), least, -1))
		for most := max(1, least); most <= 8; most++ {
			checkPrint(t, rep(letters("ab"), least, most))
		}
	}
}

func TestPrintErrors(t *testing.T) { // P8.3
	for _, x := range []struct {
		re   api.Regex
		want api.Errno
	}{
		{cat(one('a')), api.ErrForm},
		{cat(cat()), api.ErrForm},
		{cat(cat(one('a'))), api.ErrForm},
		{cat(alt(one('a'), one('b'))), api.ErrForm},
		{cat(rep(one('a'), 0, 1)), api.ErrForm},
		{cat(begin()), api.ErrForm},
		{cat(one('a'), cat(one('b'))), api.ErrForm},
		{cat(cat(one('b')), one('a')), api.ErrForm},
		{alt(cat(one('a')), one('b')), api.ErrForm},
		{alt(one('a'), cat(end())), api.ErrForm},
		{rep(cat(one('a')), 0, -1), api.ErrForm},
		{rep(rep(cat(one('a')), 0, -1), 2, 3), api.ErrForm},

		{api.Regex{}, api.ErrArg},
		{alt(one('a')), api.ErrArg},
		{set('b', 'a'), api.ErrArg},
		{set(), api.ErrArg},
		{rep(one('a'), 0, 0), api.ErrRange},
		{rep(one('a'), 0, 9), api.ErrRange},
		{rep(one('a'), 0, math.MaxInt), api.ErrRange},
		{letters(strings.Repeat("a", 40)), api.ErrLong},
		{nested(12, one('a')), api.ErrLong},

		{cat(api.Regex{}), api.ErrArg}, // before ErrForm
		{cat(one(0), alt()), api.ErrArg},
		{cat(rep(one('a'), 2, 1)), api.ErrRange},
		{alt(one(0), rep(cat(one('a')), 2, 1)), api.ErrRange},
		{nested(12, one(0)), api.ErrLong},
		{nested(11, cat(one('a'))), api.ErrLong},
		{cat(times(40, set(0, 255))...), api.ErrLong},
	} {
		if s, err := regex.Print(x.re); s != "" || err != x.want || x.want != api.ErrForm && err != regex.Right(x.re) {
			t.Errorf("Print(%v) is %q, %d, not %d", x.re, s, err, x.want)
		}
	}
}

// alternate returns the set of every second byte from 32 on, n bytes in all; its string has n + 2 bytes, and with more than 31 bytes two more, as \ and ^ are among them.
func alternate(n int) api.Regex {
	re := set()
	for i := range n {
		re.Set = append(re.Set, api.Range{Lo: byte(32 + 2*i), Hi: byte(32 + 2*i)})
	}
	return re
}

// TestPrintLong has canonical strings of 300 and 301 bytes.
func TestPrintLong(t *testing.T) { // P8.3, P8.7
	// filled returns five sets, whose strings have 52 bytes each, and then others.
	filled := func(others ...api.Regex) []api.Regex { return append(times(5, alternate(48)), others...) }
	for _, x := range []struct {
		name string
		re   api.Regex
		n    int
	}{
		{"sets and bytes, 299", cat(filled(alternate(20), letters("123456789012345"))...), 299},
		{"sets and bytes, 300", cat(filled(alternate(20), letters("1234567890123456"))...), 300},
		{"sets and bytes, 301", cat(filled(alternate(20), letters("12345678901234567"))...), 301},
		{"sets and bytes, 300 and an escape", cat(filled(alternate(20), letters("123456789012345."))...), 301},
		{"repetitions, 300", cat(filled(times(8, rep(one('.'), 2, 2))...)...), 300},
		{"repetitions, 301", cat(filled(append(times(7, rep(one('.'), 2, 2)), rep(one('.'), 2, -1))...)...), 301},
		{"alternatives, 300", alt(filled(cat(alternate(20), letters("12345678901")))...), 300},
		{"alternatives, 301", alt(filled(cat(alternate(20), letters("123456789012")))...), 301},
		{"in parentheses, 300", rep(cat(filled(alternate(33))...), 0, -1), 300},
		{"in parentheses, 301", rep(cat(filled(alternate(34))...), 0, -1), 301},
		{"six sets, 312", cat(filled(alternate(48))...), 312},
		{"25 words, 300", cat(times(25, wordByte())...), 300},
		{"25 words and a byte, 301", cat(append(times(25, wordByte()), one('a'))...), 301},
		{"26 words, 312", cat(times(26, wordByte())...), 312},
		{"39 words, 468", cat(times(39, wordByte())...), 468},
	} {
		want, ok := canonicalOf(x.re)
		if !ok || len(want) != x.n || rightOf(x.re) != api.OK {
			t.Fatalf("%s: the string has %d bytes", x.name, len(want))
		}
		if checkPrint(t, x.re) != (x.n <= 300) {
			t.Errorf("%s: whether there is a string is wrong", x.name)
		}
	}
	// What Parse returns can have a string that is too long.
	for n, want := range map[int]api.Errno{25: api.OK, 26: api.ErrForm, 39: api.ErrForm} {
		re, err := regex.Parse(strings.Repeat(`\w`, n))
		if s, printErr := regex.Print(re); err != api.OK || printErr != want || want == api.OK && s != strings.Repeat("[0-9A-Z_a-z]", n) || want != api.OK && s != "" {
			t.Errorf("%d words: %d; Print is %q, %d", n, err, s, printErr)
		}
	}
}

func TestPrintAll(t *testing.T) { // P8.3, P8.7
	printed := 0
	for _, re := range valid() {
		if checkPrint(t, re) {
			printed++
		}
	}
	if printed < 2000 {
		t.Errorf("only %d expressions are printed", printed)
	}
}

// TestThereAndBack prints what Parse returns for made strings, and parses it again.
func TestThereAndBack(t *testing.T) { // P8.7
	for s, re := range parsed() {
		printed, err := regex.Print(re)
		if err != api.OK {
			if text, ok := canonicalOf(re); err != api.ErrForm || !ok || len(text) <= 300 {
				t.Errorf("what Parse(%q) returns is printed as %q, %d", s, printed, err)
			}
			continue
		}
		back, err := regex.Parse(printed)
		if err != api.OK || !equal(back, re) {
			t.Errorf("Parse(%q) is %v, %d, not %v", printed, back, err, re)
		}
		if again, err := regex.Print(back); err != api.OK || again != printed {
			t.Errorf("%q is printed as %q, %d", printed, again, err)
		}
	}
}
