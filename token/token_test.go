package token_test

import (
	"fmt"
	"regexp"
	"slices"
	"strings"
	"testing"

	"codesearch/api"
	"codesearch/token"
)

// What the chapter lists.
const (
	keywordList = "import class interface extends implements func var return if else while new true false null this"
	markList    = "{ } ( ) ; , : . = == != < > + - * / % ! && ||"
)

// The parts of a string, written for the library's regular expressions.
var (
	skipForm    = regexp.MustCompile(`^(?:[ \t\n]|//[^\n]*)*`)
	wordForm    = regexp.MustCompile(`^[A-Za-z_][A-Za-z_0-9]*`)
	integerForm = regexp.MustCompile(`^[0-9]+`)
	literalForm = regexp.MustCompile(`^"(?:[ !#-\[\]-~]|\\"|\\\\|\\n)*"`)
	dollarForm  = regexp.MustCompile(`^\$\$?([A-Za-z_0-9]*)`)
	nameWhole   = regexp.MustCompile(`^[A-Za-z_][A-Za-z_0-9]*$`)
)

var meanings = strings.NewReplacer(`\"`, `"`, `\\`, `\`, `\n`, "\n")

func keyword(text string) bool { return slices.Contains(strings.Fields(keywordList), text) }

// longestMark follows the definition of the mark at the beginning of a string.
func longestMark(s string) string {
	longest := ""
	for _, m := range strings.Fields(markList) {
		if strings.HasPrefix(s, m) && len(m) > len(longest) {
			longest = m
		}
	}
	return longest
}

// beginning returns the token at the beginning of a string, and its error except for the number of tokens before it.
func beginning(s string, pattern bool) (api.Token, api.Errno) {
	if word := wordForm.FindString(s); word != "" {
		if keyword(word) {
			return api.Token{Kind: 2, Text: word, End: len(word)}, api.OK
		}
		return api.Token{Kind: 1, Text: word, End: len(word)}, limit(word, 24)
	}
	if n := integerForm.FindString(s); n != "" {
		if n[0] == '0' && len(n) > 1 {
			return api.Token{}, api.ErrSyntax
		}
		return api.Token{Kind: 3, Text: n, End: len(n)}, limit(n, 9)
	}
	if l := literalForm.FindString(s); l != "" {
		contents := meanings.Replace(l[1 : len(l)-1])
		return api.Token{Kind: 4, Text: contents, End: len(l)}, limit(contents, 60)
	}
	if found := dollarForm.FindStringSubmatch(s); pattern && found != nil {
		all, name := found[0], found[1]
		if !nameWhole.MatchString(name) || keyword(name) {
			return api.Token{}, api.ErrSyntax
		}
		return api.Token{Kind: 5 + len(all) - len(name), Text: name, End: len(all)}, limit(name, 24)
	}
	if m := longestMark(s); m != "" {
		return api.Token{Kind: 5, Text: m, End: len(m)}, api.OK
	}
	return api.Token{}, api.ErrSyntax
}

func limit(text string, most int) api.Errno {
	if len(text) > most {
		return api.ErrLong
	}
	return api.OK
}

// scanned is what Scan and ScanPattern return.
type scanned struct {
	tokens []api.Token
	at     int
	err    api.Errno
}

func (x scanned) String() string {
	return fmt.Sprintf("%.300s, %d, %d", fmt.Sprint(x.tokens), x.at, x.err)
}

// scanOf follows P11.2 and, for a pattern, P11.3.
func scanOf(s string, pattern bool) scanned {
	var l []api.Token
	at := len(skipForm.FindString(s))
	for at < len(s) {
		x, err := beginning(s[at:], pattern)
		if err == api.OK && len(l) >= 600 {
			err = api.ErrLong
		}
		if err != api.OK {
			return scanned{nil, at, err}
		}
		l = append(l, api.Token{Kind: x.Kind, Text: x.Text, At: at, End: at + x.End})
		at += x.End
		at += len(skipForm.FindString(s[at:]))
	}
	return scanned{l, 0, api.OK}
}

// scan returns what Scan or, for a pattern, ScanPattern returns.
func scan(s string, pattern bool) scanned {
	l, at, err := token.Scan(s)
	if pattern {
		l, at, err = token.ScanPattern(s)
	}
	return scanned{l, at, err}
}

func (x scanned) equal(y scanned) bool {
	return slices.Equal(x.tokens, y.tokens) && x.at == y.at && x.err == y.err
}

// compare compares what Scan and ScanPattern return for a string with their definitions.
func compare(t *testing.T, s string) {
	t.Helper()
	for _, pattern := range []bool{false, true} {
		if got, want := scan(s, pattern), scanOf(s, pattern); !got.equal(want) {
			t.Fatalf("%.200q, as a pattern %v: %v, not %v", s, pattern, got, want)
		}
	}
}

// The tokens of each kind; those that have a sequence in their source do not end where these say.

func name(text string, at int) api.Token {
	return api.Token{Kind: api.TkName, Text: text, At: at, End: at + len(text)}
}

func word(text string, at int) api.Token {
	return api.Token{Kind: api.TkWord, Text: text, At: at, End: at + len(text)}
}

func integer(text string, at int) api.Token {
	return api.Token{Kind: api.TkInt, Text: text, At: at, End: at + len(text)}
}

func literal(text string, at int) api.Token {
	return api.Token{Kind: api.TkText, Text: text, At: at, End: at + len(text) + 2}
}

func mark(text string, at int) api.Token {
	return api.Token{Kind: api.TkMark, Text: text, At: at, End: at + len(text)}
}

func meta(text string, at int) api.Token {
	return api.Token{Kind: api.TkMeta, Text: text, At: at, End: at + 1 + len(text)}
}

func many(text string, at int) api.Token {
	return api.Token{Kind: api.TkMany, Text: text, At: at, End: at + 2 + len(text)}
}

// short returns all strings of at most n of the given pieces.
func short(n int, pieces []string) []string {
	all := []string{""}
	from := 0
	for range n {
		to := len(all)
		for _, s := range all[from:to] {
			for _, piece := range pieces {
				all = append(all, s+piece)
			}
		}
		from = to
	}
	return all
}

// mixed returns n of the given pieces in no order, others for another seed.
func mixed(n int, pieces []string, seed int) string {
	var s strings.Builder
	state := uint32(seed)*2654435761 + 12345
	for range n {
		state = state*1664525 + 1013904223
		s.WriteString(pieces[int(state>>16)%len(pieces)])
	}
	return s.String()
}

func TestExamples(t *testing.T) { // the chapter's examples
	for s, want := range map[string][]api.Token{
		"x1=\"a\\n\"; // end": {name("x1", 0), mark("=", 2), {Kind: 4, Text: "a\n", At: 3, End: 8}, mark(";", 8)},
		"a==b":                {name("a", 0), mark("==", 1), name("b", 3)},
		"a= =b":               {name("a", 0), mark("=", 1), mark("=", 3), name("b", 4)},
		"12ab":                {integer("12", 0), name("ab", 2)},
	} {
		if got := scan(s, false); !got.equal(scanned{want, 0, api.OK}) {
			t.Errorf("%q: %v", s, got)
		}
	}
	for s, want := range map[string]scanned{"a & b": {nil, 2, api.ErrSyntax}, "007": {nil, 0, api.ErrSyntax}, "1234567890": {nil, 0, api.ErrLong}} {
		if got := scan(s, false); !got.equal(want) {
			t.Errorf("%q: %v", s, got)
		}
	}
	want := []api.Token{name("f", 0), mark("(", 1), meta("X", 2), mark(",", 4), many("_", 6), mark(")", 9)}
	if got := scan("f($X, $$_)", true); !got.equal(scanned{want, 0, api.OK}) {
		t.Errorf("a pattern: %v", got)
	}
	if got := scan("$if", true); !got.equal(scanned{nil, 0, api.ErrSyntax}) {
		t.Errorf("$if: %v", got)
	}
	if s, err := token.Print([]api.Token{name("a", 0), mark("/", 0), mark("/", 0)}); s != "a / /" || err != api.OK {
		t.Errorf("Print is %q, %d", s, err)
	}
}

func TestKeyword(t *testing.T) { // P11.1
	all := strings.Fields(keywordList)
	if len(all) != 16 {
		t.Fatalf("%d keywords", len(all))
	}
	for _, w := range all {
		if !token.Keyword(w) {
			t.Errorf("%q is none", w)
		}
	}
	others := []string{"", " ", "a", "_", "int", "bool", "string", "void", "module", "sig", "decl", "iff", "newer", "anew", "else if", "import class", "if\x00", "\xff", "0", "\"", "(", "==", "$if", strings.Repeat("if", 1000), strings.Repeat("n", 24)}
	for _, w := range all {
		others = append(others, strings.ToUpper(w), strings.ToUpper(w[:1])+w[1:], w[:len(w)-1]+strings.ToUpper(w[len(w)-1:]), w+w)
		for i := range len(w) {
			others = append(others, w[:i], w[i+1:], w[:i]+w[i+1:], w[:i]+"_"+w[i+1:], w[:i]+"x"+w[i:])
		}
		for c := range 256 {
			others = append(others, w+string([]byte{byte(c)}), string([]byte{byte(c)})+w)
		}
	}
	for _, w := range others {
		if token.Keyword(w) {
			t.Errorf("%q is one", w)
		}
	}
}

func TestKeywordShort(t *testing.T) { // P11.1
	for _, w := range short(3, strings.Split("abcdefghijklmnopqrstuvwxyzIFN_", "")) {
		if got := token.Keyword(w); got != keyword(w) {
			t.Errorf("%q: %v", w, got)
		}
	}
}

func TestSame(t *testing.T) { // P11.5
	l := []api.Token{name("a", 0), mark("(", 1), literal("a", 2), integer("1", 5), mark(")", 6)}
	moved := slices.Clone(l)
	for i := range moved {
		moved[i].At, moved[i].End = -7*i, 1<<62-i
	}
	for _, x := range []struct {
		a, b []api.Token
		want bool
	}{
		{nil, nil, true}, {nil, []api.Token{}, true}, {[]api.Token{}, nil, true}, {l, l, true}, {l, slices.Clone(l), true}, {l, moved, true}, {moved, l, true},
		{l, nil, false}, {nil, l, false}, {l, l[:4], false}, {l[:4], l, false}, {l, l[1:], false}, {l[1:], l, false}, {l[:1], l[2:3], false}, {l[:1], []api.Token{}, false},
		{[]api.Token{{}}, nil, false}, {nil, []api.Token{{}}, false}, {[]api.Token{{}}, []api.Token{{}}, true}, {[]api.Token{{}, {}}, []api.Token{{}}, false},
		{[]api.Token{{Kind: 99, Text: "\xff", At: 3}}, []api.Token{{Kind: 99, Text: "\xff", End: -3}}, true},
		{[]api.Token{{Kind: -1}}, []api.Token{{Kind: 1}}, false}, {[]api.Token{{Kind: 1 << 62}}, []api.Token{{}}, false},
	} {
		a, b := slices.Clone(x.a), slices.Clone(x.b)
		if got := token.Same(a, b); got != x.want {
			t.Errorf("Same(%v, %v) is %v", a, b, got)
		}
		if !slices.Equal(a, x.a) || !slices.Equal(b, x.b) {
			t.Errorf("the arguments became %v and %v", a, b)
		}
	}
}

func TestSameOneDiffers(t *testing.T) { // P11.5
	l := []api.Token{name("a", 0), word("if", 1), literal("a", 2), integer("1", 5), mark("==", 6), meta("x", 7), many("x", 8)}
	for i := range l {
		for kind := -1; kind <= 8; kind++ {
			other := slices.Clone(l)
			other[i].Kind = kind
			if got := token.Same(l, other); got != (kind == l[i].Kind) || token.Same(other, l) != got {
				t.Errorf("kind %d of token %d: %v", kind, i, got)
			}
		}
		for _, text := range []string{"", "a", "A", "b", "aa", "a ", "if", "1", "==", "=", "x", "X", "a\x00"} {
			other := slices.Clone(l)
			other[i].Text = text
			if got := token.Same(l, other); got != (text == l[i].Text) || token.Same(other, l) != got {
				t.Errorf("text %q of token %d: %v", text, i, got)
			}
		}
	}
	swapped := slices.Clone(l)
	swapped[0], swapped[2] = swapped[2], swapped[0]
	if token.Same(l, swapped) {
		t.Error("the order does not matter")
	}
}
