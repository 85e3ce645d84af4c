package regex_test

import (
	"math/rand"
	"regexp"
	"strconv"
	"strings"
	"testing"

	"codesearch/api"
	"codesearch/regex"
)

// The parts of a set, written for the library's regular expressions.
const (
	oneForm  = `(?:[ -,.-Z_-~]|\\[\\.*+?()\[\]{}|^$nt-])`
	elemForm = `(?:` + oneForm + `(?:-` + oneForm + `)?|\\d|\\w)`
)

var (
	oneParts    = regexp.MustCompile(oneForm)
	elemParts   = regexp.MustCompile(elemForm)
	setWhole    = regexp.MustCompile(`^\[(\^?)(` + elemForm + `+)\]$`)
	escapeWhole = regexp.MustCompile(`^\\[\\.*+?()\[\]{}|^$ntdw-]$`)
	literal     = regexp.MustCompile("^[ !\"#%&',/0-9:;<=>@A-Z_`a-z~-]$")
	boundsWhole = regexp.MustCompile(`^\{(0|[1-9][0-9]{0,2})(,?)(0|[1-9][0-9]{0,2})?\}$`)
)

// escapeBytes returns the bytes that an escape means.
func escapeBytes(s string) [256]bool {
	switch s {
	case `\n`:
		return bytesOf(one(10).Set)
	case `\t`:
		return bytesOf(one(9).Set)
	case `\d`:
		return bytesOf(digit().Set)
	case `\w`:
		return bytesOf(wordByte().Set)
	}
	return bytesOf(one(s[1]).Set)
}

// valueOf returns the byte that a one means.
func valueOf(s string) byte {
	if s[0] != '\\' {
		return s[0]
	}
	return rangesOf(escapeBytes(s))[0].Lo
}

// setOf returns the bytes that s means as a set.
func setOf(s string) ([256]bool, bool) {
	var in [256]bool
	parts := setWhole.FindStringSubmatch(s)
	if parts == nil {
		return in, false
	}
	for _, elem := range elemParts.FindAllString(parts[2], -1) {
		if elem == `\d` || elem == `\w` {
			for c, is := range escapeBytes(elem) {
				in[c] = in[c] || is
			}
			continue
		}
		ones := oneParts.FindAllString(elem, -1)
		lo, hi := valueOf(ones[0]), valueOf(ones[0])
		if len(elem) > len(ones[0]) {
			hi = valueOf(elem[len(ones[0])+1:])
		}
		if hi < lo {
			return in, false
		}
		for c := int(lo); c <= int(hi); c++ {
			in[c] = true
		}
	}
	if parts[1] != "" {
		in = without(in)
	}
	return in, true
}

// boundsOf returns the bounds that s means.
func boundsOf(s string) (int, int, bool) {
	switch s {
	case "*":
		return 0, -1, true
	case "+":
		return 1, -1, true
	case "?":
		return 0, 1, true
	}
	parts := boundsWhole.FindStringSubmatch(s)
	if parts == nil || parts[2] == "" && parts[3] != "" {
		return 0, 0, false
	}
	least, _ := strconv.Atoi(parts[1])
	most, err := strconv.Atoi(parts[3])
	switch {
	case parts[2] == "":
		return least, least, true
	case err != nil:
		return least, -1, true
	}
	return least, most, true
}

// reading is what a string means as a part of the grammar: its list of sequences or items, or its atom.
type reading struct {
	list []api.Regex
	ok   bool
}

// grammar reads strings by trying each division that the grammar permits, and remembers the results.
type grammar struct{ alts, seqs, atoms map[string]reading }

func newGrammar() grammar {
	return grammar{map[string]reading{}, map[string]reading{}, map[string]reading{}}
}

// parse follows P8.2.
func (g grammar) parse(s string) (api.Regex, api.Errno) {
	if len(s) > 300 {
		return api.Regex{}, api.ErrLong
	}
	re, ok := g.alt(s)
	if !ok {
		return api.Regex{}, api.ErrForm
	}
	if err := rightOf(re); err != api.OK {
		return api.Regex{}, err
	}
	return re, api.OK
}

func (g grammar) alt(s string) (api.Regex, bool) {
	found := remembered(g.alts, s, g.divided)
	switch {
	case !found.ok:
		return api.Regex{}, false
	case len(found.list) == 1:
		return found.list[0], true
	}
	return alt(found.list...), true
}

func remembered(known map[string]reading, s string, read func(s string) reading) reading {
	found, ok := known[s]
	if !ok {
		found = read(s)
		known[s] = found
	}
	return found
}

// divided returns the sequences of an alt.
func (g grammar) divided(s string) reading {
	if re, ok := g.seq(s); ok {
		return reading{[]api.Regex{re}, true}
	}
	for i := range len(s) {
		if s[i] != '|' {
			continue
		}
		rest := remembered(g.alts, s[i+1:], g.divided)
		if re, ok := g.seq(s[:i]); ok && rest.ok {
			return reading{append([]api.Regex{re}, rest.list...), true}
		}
	}
	return reading{}
}

func (g grammar) seq(s string) (api.Regex, bool) {
	found := remembered(g.seqs, s, g.items)
	if len(found.list) == 1 {
		return found.list[0], found.ok
	}
	return cat(found.list...), found.ok
}

// items returns the items of a sequence.
func (g grammar) items(s string) reading {
	if s == "" {
		return reading{nil, true}
	}
	for i := 1; i <= len(s); i++ {
		re, ok := g.item(s[:i])
		if !ok {
			continue
		}
		if rest := remembered(g.seqs, s[i:], g.items); rest.ok {
			return reading{append([]api.Regex{re}, rest.list...), true}
		}
	}
	return reading{}
}

func (g grammar) item(s string) (api.Regex, bool) {
	if found := remembered(g.atoms, s, g.atom); found.ok {
		return found.list[0], true
	}
	for i := 1; i < len(s); i++ {
		least, most, ok := boundsOf(s[i:])
		if !ok {
			continue
		}
		if found := remembered(g.atoms, s[:i], g.atom); found.ok {
			return rep(found.list[0], least, most), true
		}
	}
	return api.Regex{}, false
}

func (g grammar) atom(s string) reading {
	in, isSet := setOf(s)
	switch {
	case isSet:
		return reading{[]api.Regex{{Kind: api.ReSet, Set: rangesOf(in)}}, true}
	case s == ".":
		return reading{[]api.Regex{dot()}, true}
	case s == "^":
		return reading{[]api.Regex{begin()}, true}
	case s == "$":
		return reading{[]api.Regex{end()}, true}
	case s == `\b`:
		return reading{[]api.Regex{bound()}, true}
	case literal.MatchString(s):
		return reading{[]api.Regex{one(s[0])}, true}
	case escapeWhole.MatchString(s):
		return reading{[]api.Regex{{Kind: api.ReSet, Set: rangesOf(escapeBytes(s))}}, true}
	case len(s) >= 2 && s[0] == '(' && s[len(s)-1] == ')':
		re, ok := g.alt(s[1 : len(s)-1])
		return reading{[]api.Regex{re}, ok}
	}
	return reading{}
}

// checkParse compares Parse with the grammar, and reports whether the result has an expression, which must have a canonical string (P8.7).
func checkParse(t *testing.T, g grammar, s string) bool {
	t.Helper()
	want, wantErr := g.parse(s)
	got, err := regex.Parse(s)
	if err != wantErr || !equal(got, want) {
		t.Fatalf("Parse(%q) is %v, %d, not %v, %d", s, got, err, want, wantErr)
	}
	if err != api.OK {
		return false
	}
	printed, err := regex.Print(got)
	if text, ok := canonicalOf(want); !ok || err == api.OK && printed != text || err != api.OK && (err != api.ErrForm || len(text) <= 300) {
		t.Fatalf("%q is printed as %q, %d, not as %q", s, printed, err, text)
	}
	return true
}

// each calls visit with all strings of at most n of the given parts.
func each(n int, parts []string, visit func(s string)) {
	visit("")
	var extend func(s string, left int)
	extend = func(s string, left int) {
		if left == 0 {
			return
		}
		for _, part := range parts {
			visit(s + part)
			extend(s+part, left-1)
		}
	}
	extend("", n)
}

// split returns the bytes of s as strings.
func split(s string) []string {
	var l []string
	for i := range len(s) {
		l = append(l, s[i:i+1])
	}
	return l
}

// TestParseShort compares Parse with the grammar for all short strings of bytes that matter.
func TestParseShort(t *testing.T) { // P8.2
	for _, x := range []struct {
		n             int
		before, after string
		parts         []string
	}{
		{3, "", "", split("a0,-.*+?()[]{}|^$\\bdntw\n\x1f \x7f\x80~")},
		{4, "", "", split("a(|)*[]^-\\b{1}")},
		{7, "", "", split("a(|)")},
		{6, "", "", split("a(|)?")},
		{5, "a", "", split("{},0123")},
		{5, "(a|)", "b", split("{},018")},
		{5, "[", "", split("]^-\\ad")},
		{5, "x[", "]y", split("]^-\\na")},
		{4, "[", "]", split("]^-\\n.b~ \n")},
		{4, "[", "]+", []string{"a", "c", "-", "\\-", "\\d", "\\w", "\\t", "\\n", "^", "\\^", "0", "9", "_", "Z"}},
		{5, "", "", []string{"a", "\\b", "()", "(", ")", "|", "{2}", "{1,}", "[^a]"}},
	} {
		g, right := newGrammar(), 0
		each(x.n, x.parts, func(s string) {
			if checkParse(t, g, x.before+s+x.after) {
				right++
			}
		})
		if right < 100 {
			t.Errorf("only %d of the strings are right", right)
		}
	}
}

// TestParseBytes compares Parse with the grammar for each byte at every place.
func TestParseBytes(t *testing.T) { // P8.2
	g := newGrammar()
	right := 0
	for i := range 256 {
		c := string([]byte{byte(i)})
		for _, frame := range []string{"_", `\_`, "[_]", `[\_]`, "[^_]", `[^\_]`, "[!-_]", "[_-~]", `[\t-_]`, `[\n-\_]`, `[\_-z]`, "[a_b]", "[a-_-b]", "a_", "_b", "a_b", "(_)", "(_", "_)", "a|_", "_*", "a*_", "a{_}", "a{1_}", "a{_1}", "a{1,_}", "a{1_2}", "a{_,2}", "a{1,2_}", "[_", "_]", `\\_`, `\_*`, `\d_`, `\b_`, "[a_", `[\d_a]`, `[a_\d]`} {
			if checkParse(t, g, strings.ReplaceAll(frame, "_", c)) {
				right++
			}
			checkParse(t, g, strings.ReplaceAll(frame, "_", c+c))
		}
	}
	if right < 256 {
		t.Errorf("only %d strings are right", right)
	}
}

func TestParseNamed(t *testing.T) { // P8.2
	g := newGrammar()
	for _, x := range []struct {
		s    string
		want api.Regex
	}{
		{"", cat()},
		{"a", one('a')},
		{" ", one(' ')},
		{"~", one('~')},
		{"-", one('-')},
		{",", one(',')},
		{"/", one('/')},
		{"ab", letters("ab")},
		{"0-9", letters("0-9")},
		{".", dot()},
		{"^", begin()},
		{"$", end()},
		{`\b`, bound()},
		{"^$", cat(begin(), end())},
		{"$^", cat(end(), begin())},
		{"a^b$c", cat(one('a'), begin(), one('b'), end(), one('c'))},
		{`\ba\b`, cat(bound(), one('a'), bound())},
		{`\\`, one('\\')}, {`\.`, one('.')}, {`\*`, one('*')}, {`\+`, one('+')}, {`\?`, one('?')},
		{`\(`, one('(')}, {`\)`, one(')')}, {`\[`, one('[')}, {`\]`, one(']')}, {`\{`, one('{')}, {`\}`, one('}')},
		{`\|`, one('|')}, {`\^`, one('^')}, {`\$`, one('$')}, {`\-`, one('-')},
		{`\n`, one(10)}, {`\t`, one(9)}, {`\d`, digit()}, {`\w`, wordByte()},
		{`\\n`, letters(`\n`)},
		{`\\\n`, letters("\\\n")},
		{`\d\w`, cat(digit(), wordByte())},
		{`\nn\tt`, letters("\nn\tt")},

		{"a*", rep(one('a'), 0, -1)},
		{"a+", rep(one('a'), 1, -1)},
		{"a?", rep(one('a'), 0, 1)},
		{"a{1}", rep(one('a'), 1, 1)},
		{"a{8}", rep(one('a'), 8, 8)},
		{"a{0,}", rep(one('a'), 0, -1)},
		{"a{1,}", rep(one('a'), 1, -1)},
		{"a{8,}", rep(one('a'), 8, -1)},
		{"a{0,1}", rep(one('a'), 0, 1)},
		{"a{0,8}", rep(one('a'), 0, 8)},
		{"a{8,8}", rep(one('a'), 8, 8)},
		{"a{3,5}", rep(one('a'), 3, 5)},
		{"ab*", cat(one('a'), rep(one('b'), 0, -1))},
		{"a*b", cat(rep(one('a'), 0, -1), one('b'))},
		{"^*", rep(begin(), 0, -1)},
		{"${2}", rep(end(), 2, 2)},
		{`\b?`, rep(bound(), 0, 1)},
		{`\d{2,3}`, rep(digit(), 2, 3)},
		{`\**`, rep(one('*'), 0, -1)},
		{".+", rep(dot(), 1, -1)},
		{"[ab]{2}", rep(set('a', 'b'), 2, 2)},
		{"(ab)*", rep(letters("ab"), 0, -1)},
		{"(a|b)*", rep(alt(one('a'), one('b')), 0, -1)},
		{"(a*)*", rep(rep(one('a'), 0, -1), 0, -1)},
		{"((a{2}){3}){4}", rep(rep(rep(one('a'), 2, 2), 3, 3), 4, 4)},
		{"(^*)+", rep(rep(begin(), 0, -1), 1, -1)},
		{"()?", rep(cat(), 0, 1)},
		{"(|)*", rep(alt(cat(), cat()), 0, -1)},

		{"a|b", alt(one('a'), one('b'))},
		{"a|b|c", alt(one('a'), one('b'), one('c'))},
		{"ab|cd", alt(letters("ab"), letters("cd"))},
		{"|", alt(cat(), cat())},
		{"||", alt(cat(), cat(), cat())},
		{"a|", alt(one('a'), cat())},
		{"|a", alt(cat(), one('a'))},
		{"a||b", alt(one('a'), cat(), one('b'))},
		{"a|b*", alt(one('a'), rep(one('b'), 0, -1))},
		{"^|$", alt(begin(), end())},
		{"a|a", alt(one('a'), one('a'))},

		{"()", cat()},
		{"(())", cat()},
		{"(a)", one('a')},
		{"((a))", one('a')},
		{"(ab)", letters("ab")},
		{"(ab)c", cat(letters("ab"), one('c'))},
		{"a(bc)", cat(one('a'), letters("bc"))},
		{"(a)(b)", letters("ab")},
		{"(ab)(cd)", cat(letters("ab"), letters("cd"))},
		{"((ab)c)d", cat(cat(letters("ab"), one('c')), one('d'))},
		{"()()", cat(cat(), cat())},
		{"a()", cat(one('a'), cat())},
		{"()a", cat(cat(), one('a'))},
		{"()|()", alt(cat(), cat())},
		{"(|)", alt(cat(), cat())},
		{"(a|b)|c", alt(alt(one('a'), one('b')), one('c'))},
		{"a|(b|c)", alt(one('a'), alt(one('b'), one('c')))},
		{"((a|b))", alt(one('a'), one('b'))},
		{"(a|b)c", cat(alt(one('a'), one('b')), one('c'))},
		{"a(|b)c", cat(one('a'), alt(cat(), one('b')), one('c'))},
		{"(a)*", rep(one('a'), 0, -1)},
		{"(())*", rep(cat(), 0, -1)},
	} {
		checkParse(t, g, x.s)
		if re, err := regex.Parse(x.s); err != api.OK || !equal(re, x.want) {
			t.Errorf("Parse(%q) is %v, %d", x.s, re, err)
		}
	}
}

func TestParseSets(t *testing.T) { // P8.2
	g := newGrammar()
	for _, x := range []struct {
		s    string
		want api.Regex
	}{
		{"[a]", one('a')},
		{"[aa]", one('a')},
		{"[ab]", set('a', 'b')},
		{"[ba]", set('a', 'b')},
		{"[ac]", set('a', 'a', 'c', 'c')},
		{"[ca]", set('a', 'a', 'c', 'c')},
		{"[a-a]", one('a')},
		{"[a-b]", set('a', 'b')},
		{"[a-c]", set('a', 'c')},
		{"[a-cd-f]", set('a', 'f')},           // they touch
		{"[d-fa-c]", set('a', 'f')},           // likewise
		{"[a-ce-f]", set('a', 'c', 'e', 'f')}, // one byte is between them
		{"[e-fa-c]", set('a', 'c', 'e', 'f')}, // likewise
		{"[a-dc-f]", set('a', 'f')},           // they overlap
		{"[c-ea-d]", set('a', 'e')},           // likewise
		{"[a-zc-d]", set('a', 'z')},           // one contains the other one
		{"[c-da-z]", set('a', 'z')},           // likewise
		{"[a-ca-c]", set('a', 'c')},           // twice
		{"[a-cb]", set('a', 'c')},             // a byte of a range
		{"[a-cd]", set('a', 'd')},             // a byte after a range
		{"[bd-f]", set('b', 'b', 'd', 'f')},   // a byte before a range
		{"[eca]", set('a', 'a', 'c', 'c', 'e', 'e')},
		{"[ -~]", set(32, 126)},
		{"[ ]", one(32)},
		{"[~]", one(126)},
		{"[.]", one('.')},
		{"[*+?(){}|$/,]", set('$', '$', '(', ',', '/', '/', '?', '?', '{', '}')},
		{"[)-+]", set(')', '+')},
		{"[,-.]", set(',', '.')},
		{`[\n]`, one(10)},
		{`[\t]`, one(9)},
		{`[\t\n]`, set(9, 10)},
		{`[\t-\n]`, set(9, 10)},
		{`[\t-a]`, set(9, 'a')},
		{`[\n- ]`, set(10, 32)},
		{`[\\]`, one('\\')},
		{`[\]]`, one(']')},
		{`[\[]`, one('[')},
		{`[\^]`, one('^')},
		{`[\-]`, one('-')},
		{`[\.\*\+\?\(\)\{\}\|\$]`, set('$', '$', '(', '+', '.', '.', '?', '?', '{', '}')},
		{`[a\-c]`, set('-', '-', 'a', 'a', 'c', 'c')},
		{`[\--a]`, set('-', 'a')},
		{`[+-\-]`, set('+', '-')},
		{`[\--\-]`, one('-')},
		{`[\[-\]]`, set('[', ']')},
		{`[\\-\^]`, set('\\', '^')},
		{`[a\]]`, set(']', ']', 'a', 'a')},
		{`[\d]`, digit()},
		{`[\w]`, wordByte()},
		{`[\d\w]`, wordByte()},
		{`[\w\d]`, wordByte()},
		{`[\da]`, set('0', '9', 'a', 'a')},
		{`[a\d]`, set('0', '9', 'a', 'a')},
		{`[\d/:]`, set('/', ':')},
		{`[\d\-]`, set('-', '-', '0', '9')},
		{`[a-c\d]`, set('0', '9', 'a', 'c')},
		{`[\da-c]`, set('0', '9', 'a', 'c')},
		{"[^a]", set(0, 'a'-1, 'a'+1, 255)},
		{`[^\n]`, dot()},
		{`[^\t]`, set(0, 8, 10, 255)},
		{`[^\t\n]`, set(0, 8, 11, 255)},
		{"[^a-z]", set(0, 'a'-1, 'z'+1, 255)},
		{"[^ac]", set(0, 'a'-1, 'b', 'b', 'd', 255)},
		{"[^ -~]", set(0, 31, 127, 255)},
		{`[^\t-~]`, set(0, 8, 127, 255)}, // no set with ^ means fewer bytes
		{`[^\d]`, set(0, '0'-1, '9'+1, 255)},
		{`[^\w]`, set(0, '/', ':', '@', '[', '^', '`', '`', '{', 255)},
		{`[^\^]`, set(0, ']', '_', 255)},
		{`[^\]]`, set(0, '\\', '^', 255)},
		{`[^.]`, set(0, '-', '/', 255)},
	} {
		checkParse(t, g, x.s)
		if re, err := regex.Parse(x.s); err != api.OK || !equal(re, x.want) {
			t.Errorf("Parse(%q) is %v, %d", x.s, re, err)
		}
	}
}

// TestParseErrors has literal results.
func TestParseErrors(t *testing.T) { // P8.2
	g := newGrammar()
	a39, a40 := strings.Repeat("a", 39), strings.Repeat("a", 40)
	deep := func(n int, inside string) string {
		return strings.Repeat("(", n) + inside + strings.Repeat(")*", n)
	}
	for want, all := range map[api.Errno][]string{
		api.ErrForm: {
			"a**", "a*+", "a+*", "a??", "a{2}{3}", "a*{2}", "a{2}*", "^**", `\b*?`, "(a)**", "*", "+", "?", "{", "}", "{2}", "a|*", "|*", "(*)", "(*", "*a", "^|+",
			"(", ")", "(a", "a)", "(a))", "((a)", ")(", "(()", "())", "(a|b", "a|b)", "(|", "|)",
			"[", "]", "[]", "[^]", "[]]", "[]a]", "[^]a]", "a]", "[a", "[^a", "[a]]", "[[]", "[[a]", "[^", "[a[b]]",
			"[b-a]", "[~- ]", `[a-\n]`, `[\n-\t]`, `[\]-\[]`, "[c-ab]", "[ab-a]", "[^b-a]", "[a-cz-y]",
			"[-]", "[-a]", "[a-]", "[a--]", "[--a]", "[a-b-c]", "[a-b-]", "[^-]", "[^-a]", "[^a-]", "[---]", "[+--]", "[a-a-a]",
			"[a^]", "[^^]", "[a^b]", "[a-^]", "[^a^]", "[Z-^]",
			`[\d-a]`, `[a-\d]`, `[\d-\d]`, `[\w-z]`, `[0-\w]`, `[\d-]`, `[-\d]`, `[\b]`, `[a\b]`, `[\a]`, `[\q]`, `[\`, `[\]`, `[a\`, `[a-\`, `[a-`, `[a-\]`, `[\d`, `[\d-`, "[a-\\z]",
			`\`, `\\\`, `a\`, `\a`, `\q`, `\B`, `\D`, `\W`, `\N`, `\T`, `\s`, `\0`, `\1`, `\ `, `\/`, `\"`, `\,`, `\_`, `\~`, `\!`, `\=`, "\\\n", "\\\x00", "\\\xff", "(\\)", `\(\`,
			"a{", "a{}", "a{,}", "a{,2}", "a{1", "a{1,", "a{1,2", "a}", "a{a}", "a{1a}", "a{1,a}", "a{ 1}", "a{1 }", "a{1, 2}", "a{1,2,3}", "a{1,,2}", "a{1,,}", "a{-1}", "a{+1}", "a{1.}", "a{1}}", "a{{1}", "a{{1}}",
			"a{00}", "a{01}", "a{001}", "a{08}", "a{00,1}", "a{0,01}", "a{1,00}", "a{01,}", "a{1000}", "a{1,1000}", "a{1000,}", "a{0001}", "a{9999999999999999999999}", "a{12345678901234567890,}", "a{1,18446744073709551617}",
			"a{1*}", "a{1|2}", "a{(1)}", "a{1,(2)}", `a{\d}`, "({2})", "|{2}", "a|{2}",
			"\x00", "\t", "\n", "\r", "\x1f", "\x7f", "\x80", "\xff", "\u00e9", "a\n", "[\t]", "[\n]", "[\x7f]", "[\x80]", "[\u00e9]", "[a-\x7f]", "[\x1f-a]", "(\n)", "a{\n1}",
			"a{0}(", "a{3,2})", "a{9}**", "a{0}\\", "[b-a]a{0}", "a{0}[b-a]", "a{9}\n", // before ErrRange
			a40 + "(", "[b-a]" + a40, a40 + "*]", deep(12, "a") + "{01}", // before ErrLong
			strings.Repeat("(", 300), strings.Repeat(")", 300), strings.Repeat("a", 299) + "\\", strings.Repeat("[", 300), strings.Repeat("a*", 149) + "**", "[" + strings.Repeat("a", 299),
		},
		api.ErrRange: {
			"a{0}", "a{0,0}", "a{9}", "a{9,}", "a{9,9}", "a{0,9}", "a{8,9}", "a{10}", "a{10,}", "a{99}", "a{100}", "a{999}", "a{999,}", "a{999,999}", "a{0,999}", "a{999,0}", "a{1,0}", "a{8,0}", "a{2,1}", "a{3,2}", "a{8,7}", "a{7,1}", "^{0}", "(){0}", "(a{2}){0}", "(a{0}){2}", "b|a{0}", "(b|(a{3,2}))", "a{0}a{0}", "a{2}b{9}", "a{9}b{2}",
			a40 + "b{0}", "b{0}" + a40, deep(12, "a{0}"), "a{0}" + deep(12, "a"), deep(12, "a") + "a{9}", // before ErrLong
			strings.Repeat("a", 296) + "b{9}", strings.Repeat("a{9}", 75),
		},
		api.ErrLong: {
			a40, a40 + "a", strings.Repeat("a", 300), strings.Repeat("a|", 39) + "a", strings.Repeat("|", 39), strings.Repeat("()", 40), strings.Repeat("a*", 20), strings.Repeat("[ab]", 40),
			deep(12, "a"), deep(11, "ab"), deep(11, "a|b"), "a" + deep(11, "a"), "a|" + deep(11, "a"), deep(11, "(ab)"), deep(13, "a"), deep(99, ""),
			strings.Repeat("a", 301), strings.Repeat("(", 301), strings.Repeat(")", 301), strings.Repeat("\x00", 301), "[" + strings.Repeat("a", 299) + "]", strings.Repeat("(", 150) + "a" + strings.Repeat(")", 150), strings.Repeat("a{9}", 76), strings.Repeat("a", 100000),
		},
	} {
		for _, s := range all {
			if len(s) < 50 { // the grammar takes long for others
				checkParse(t, g, s)
			}
			if re, err := regex.Parse(s); err != want || !equal(re, api.Regex{}) {
				t.Errorf("Parse(%q) is %v, %d, not %d", s, re, err, want)
			}
		}
	}
	for s, want := range map[string]api.Regex{
		a39:                                     letters(a39),
		strings.Repeat("a|", 38) + "a":          alt(times(39, one('a'))...),
		strings.Repeat("|", 38):                 alt(times(39, cat())...),
		strings.Repeat("()", 39):                cat(times(39, cat())...),
		strings.Repeat("a*", 19) + "a":          cat(append(times(19, rep(one('a'), 0, -1)), one('a'))...),
		strings.Repeat("[ac]", 39):              cat(times(39, set('a', 'a', 'c', 'c'))...),
		deep(11, "a"):                           nested(11, one('a')),
		deep(10, "ab"):                          nested(10, letters("ab")),
		"a" + deep(10, "a"):                     cat(one('a'), nested(10, one('a'))),
		strings.Repeat("a", 28) + deep(10, "^"): cat(append(times(28, one('a')), nested(10, begin()))...),
		strings.Repeat("(", 149) + "ab" + strings.Repeat(")", 149): letters("ab"),
		"[" + strings.Repeat("a", 298) + "]":                       one('a'),
		"[" + strings.Repeat("ab", 149) + "]":                      set('a', 'b'),
		"[^" + strings.Repeat("0-9", 99) + "]":                     set(0, '/', ':', 255),
	} {
		if re, err := regex.Parse(s); err != api.OK || !equal(re, want) {
			t.Errorf("Parse(%q) is %v, %d", s, re, err)
		}
	}
}

// TestParseNumbers has all numbers up to four digits, with and without zeros before them.
func TestParseNumbers(t *testing.T) { // P8.2
	for n := range 10000 {
		want := api.ErrRange
		if n > 999 {
			want = api.ErrForm
		} else if n >= 1 && n <= 8 {
			want = api.OK
		}
		number := strconv.Itoa(n)
		for _, s := range []string{"a{" + number + "}", "a{" + number + "," + number + "}"} {
			re, err := regex.Parse(s)
			if err != want || err == api.OK && !equal(re, rep(one('a'), n, n)) {
				t.Fatalf("Parse(%q) is %v, %d", s, re, err)
			}
		}
		from, err := regex.Parse("a{" + number + ",}")
		if n != 0 && err != want || n == 0 && err != api.OK || err == api.OK && !equal(from, rep(one('a'), n, -1)) {
			t.Fatalf("from %d on: %v, %d", n, from, err)
		}
		to, err := regex.Parse("a{0," + number + "}")
		if err != want || err == api.OK && !equal(to, rep(one('a'), 0, n)) {
			t.Fatalf("up to %d: %v, %d", n, to, err)
		}
		for _, s := range []string{"a{0" + number + "}", "a{1,0" + number + "}", "a{00" + number + ",}", "a{" + number + " }"} {
			if re, err := regex.Parse(s); err != api.ErrForm || !equal(re, api.Regex{}) {
				t.Fatalf("Parse(%q) is %v, %d", s, re, err)
			}
		}
	}
}

// made returns a random string of the grammar, and what it means.
func made(r *rand.Rand, levels int) (string, api.Regex) {
	var parts []string
	var subs []api.Regex
	for range 1 + r.Intn(2)*r.Intn(3) {
		s, re := madeSeq(r, levels)
		parts, subs = append(parts, s), append(subs, re)
	}
	if len(subs) == 1 {
		return parts[0], subs[0]
	}
	return strings.Join(parts, "|"), alt(subs...)
}

func madeSeq(r *rand.Rand, levels int) (string, api.Regex) {
	s, subs := "", []api.Regex(nil)
	for range r.Intn(5) {
		atom, re := madeAtom(r, levels)
		if r.Intn(3) == 0 {
			forms := []string{"*", "+", "?", "{1}", "{8}", "{0,}", "{1,}", "{7,}", "{0,1}", "{2,2}", "{3,8}", "{0,8}", "{9}", "{4,3}"}
			form := forms[r.Intn(len(forms)-2*r.Intn(2))]
			least, most, _ := boundsOf(form)
			atom, re = atom+form, rep(re, least, most)
		}
		s, subs = s+atom, append(subs, re)
	}
	if len(subs) == 1 {
		return s, subs[0]
	}
	return s, cat(subs...)
}

func madeAtom(r *rand.Rand, levels int) (string, api.Regex) {
	if levels > 0 && r.Intn(2) == 0 {
		s, re := made(r, levels-1)
		return "(" + s + ")", re
	}
	atoms := []struct {
		s  string
		re api.Regex
	}{
		{"a", one('a')}, {"-", one('-')}, {",", one(',')}, {"0", one('0')}, {".", dot()}, {"^", begin()}, {"$", end()}, {`\b`, bound()},
		{`\n`, one(10)}, {`\\`, one('\\')}, {`\)`, one(')')}, {`\|`, one('|')}, {`\d`, digit()}, {`\w`, wordByte()},
		{"[)(|]", set('(', ')', '|', '|')}, {`[^\]]`, set(0, '\\', '^', 255)}, {"[*-+]", set('*', '+')}, {`[\d\-]`, set('-', '-', '0', '9')}, {"[{1}]", set('1', '1', '{', '{', '}', '}')},
	}
	atom := atoms[r.Intn(len(atoms))]
	return atom.s, atom.re
}

// TestParseMade compares Parse with what made strings mean, and with the grammar if a byte of them is changed.
func TestParseMade(t *testing.T) { // P8.2
	r := rand.New(rand.NewSource(1))
	seen := map[api.Errno]int{}
	for range 20000 {
		s, want := made(r, r.Intn(7))
		wantErr := rightOf(want)
		if len(s) > 300 {
			wantErr = api.ErrLong
		}
		if wantErr != api.OK {
			want = api.Regex{}
		}
		re, err := regex.Parse(s)
		if err != wantErr || !equal(re, want) {
			t.Fatalf("Parse(%q) is %v, %d, not %v, %d", s, re, err, want, wantErr)
		}
		seen[err]++
	}
	for _, err := range []api.Errno{api.OK, api.ErrRange, api.ErrLong} {
		if seen[err] < 1000 {
			t.Errorf("the error %d is seen %d times", err, seen[err])
		}
	}
	for range 1500 {
		s, _ := made(r, r.Intn(3))
		if len(s) > 24 || s == "" {
			continue
		}
		g := newGrammar()
		at := r.Intn(len(s))
		c := string("a0,-.*+?()[]{}|^$\\bdn"[r.Intn(21)])
		for _, changed := range []string{s[:at] + s[at+1:], s[:at] + c + s[at+1:], s[:at] + c + s[at:], s[:at], s[at:], s[at:] + s[:at]} {
			checkParse(t, g, changed)
		}
	}
}
