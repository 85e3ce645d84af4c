package token_test

import (
	"regexp"
	"slices"
	"strings"
	"testing"

	"codesearch/api"
	"codesearch/token"
)

// What can be between two tokens, and after the last one.
var (
	betweenForm = regexp.MustCompile(`^(?:[ \t\n]|//[^\n]*\n)*$`)
	endForm     = regexp.MustCompile(`^(?:[ \t\n]|//[^\n]*\n)*(?://[^\n]*)?$`)
)

// all returns tokens of each kind, all marks and keywords among them.
func all() []api.Token {
	l := []api.Token{name("a", 0), name("_", 0), name("n0", 0), name("iff", 0), name("If", 0), name(strings.Repeat("n", 24), 0), integer("0", 0), integer("7", 0), integer("10", 0), integer("123456789", 0)}
	for _, w := range strings.Fields(keywordList) {
		l = append(l, word(w, 0))
	}
	for _, m := range strings.Fields(markList) {
		l = append(l, mark(m, 0))
	}
	for _, s := range []string{"", "a", " ", "\"", "\\", "\n", "//", "\\n", "\\\"", "$x", "n\\", "\n\n", "#", strings.Repeat("\"", 60), strings.Repeat("s", 60)} {
		l = append(l, literal(s, 0))
	}
	return append(l, meta("x", 0), meta("_", 0), meta("iff", 0), meta(strings.Repeat("n", 24), 0), many("x", 0), many("_", 0), many("If", 0), many(strings.Repeat("n", 24), 0))
}

func variables(l []api.Token) bool {
	return slices.ContainsFunc(l, func(x api.Token) bool { return x.Kind == api.TkMeta || x.Kind == api.TkMany })
}

// thereAndBack prints a list and scans what is printed.
func thereAndBack(t *testing.T, l ...api.Token) {
	t.Helper()
	s, err := token.Print(l)
	if err != api.OK {
		t.Fatalf("Print(%v) is %q, %d", l, s, err)
	}
	if got := scan(s, true); got.err != api.OK || got.at != 0 || !token.Same(got.tokens, l) {
		t.Fatalf("%v is printed as %q, which as a pattern is %v", l, s, got)
	}
	if got := scan(s, false); variables(l) && got.err != api.ErrSyntax || !variables(l) && (got.err != api.OK || !token.Same(got.tokens, l)) {
		t.Fatalf("%v is printed as %q, which is %v", l, s, got)
	}
}

func TestThereAndBack(t *testing.T) { // P11.6
	thereAndBack(t)
	l := all()
	for _, x := range l {
		thereAndBack(t, x)
		for _, y := range l {
			thereAndBack(t, x, y)
			thereAndBack(t, x, y, x)
		}
	}
	for c := range 256 {
		if b := string([]byte{byte(c)}); b == "\n" || ' ' <= c && c <= '~' {
			thereAndBack(t, literal(b, 0))
			thereAndBack(t, literal("a"+b+"n"+b, 0), literal(b+"\\"+b+"\"", 0))
		}
	}
	for _, s := range short(4, strings.Split("\"\\n\na", "")) {
		thereAndBack(t, literal(s, 0))
	}
	for n := range 40 {
		thereAndBack(t, slices.Repeat(l, 10)[n:15*n+1]...)
	}
}

func TestThereAndBackMany(t *testing.T) { // P11.6
	for _, x := range all() {
		thereAndBack(t, slices.Repeat([]api.Token{x}, 600)...)
		s, err := token.Print(slices.Repeat([]api.Token{x}, 601))
		if err != api.OK {
			t.Errorf("601 times %v: %d", x, err)
		}
		noPattern(t, s, len(s)-len(sourceOf(x)), api.ErrLong)
	}
}

// sources are strings without an error, some of them only as patterns.
func sources() []string {
	l := append(slices.Clone(pieces), separators...)
	l = append(l, "", "a // end", "//", "a/", "/", "a =", "=", "!", "0", "if", `""`, "$x", "$$y", "$_ // $", "f($X, $$_)", "x1=\"a\\n\"; // end", "class A { var n: int; }\n", "func f(a: b.c): int { return a.n + 1; }", "\n\n// a\n", `"\n\"\\"`, "import a; // a\nimport b;", "a == b != c && d || !e", "-1--1", strings.Repeat("n", 24), "999999999")
	for seed := range 60 {
		l = append(l, mixed(seed, append(slices.Clone(pieces), " ", "\n", "// x\n"), seed), mixed(seed, []string{"$x", " ", "$$y", "(", ",", "//\n", "a", "/ "}, seed))
	}
	return slices.DeleteFunc(l, func(s string) bool { return scanOf(s, true).err != api.OK })
}

func TestPrintScanned(t *testing.T) { // P11.6
	for _, s := range sources() {
		for _, pattern := range []bool{false, true} {
			got := scan(s, pattern)
			if got.err != api.OK {
				continue
			}
			printed, err := token.Print(got.tokens)
			again := scan(printed, pattern)
			if err != api.OK || again.err != api.OK || !token.Same(got.tokens, again.tokens) {
				t.Errorf("%q has %v, which is printed as %q, %d", s, got.tokens, printed, err)
			}
			if twice, err := token.Print(again.tokens); twice != printed || err != api.OK {
				t.Errorf("%q is printed as %q", printed, twice)
			}
		}
	}
}

func TestPositions(t *testing.T) { // P11.7
	strange := short(4, strings.Split("a0=/\n\" $", ""))
	for _, s := range append(sources(), strange...) {
		for _, pattern := range []bool{false, true} {
			last := 0
			got := scan(s, pattern)
			for _, x := range got.tokens {
				if x.At < last || x.End <= x.At || x.End > len(s) || !betweenForm.MatchString(s[last:x.At]) {
					t.Fatalf("%q: %v from %d on", s, x, last)
				}
				if source := s[x.At:x.End]; source != sourceOf(x) {
					t.Fatalf("%q: %v is %q", s, x, source)
				}
				last = x.End
			}
			if got.err == api.OK && !endForm.MatchString(s[last:]) {
				t.Fatalf("%q: %q is left", s, s[last:])
			}
		}
	}
}

// sourceOf returns what a token has in a string, which is the same as what is printed.
func sourceOf(x api.Token) string {
	s, _ := printOf([]api.Token{x})
	return s
}

func TestPieces(t *testing.T) { // P11.8
	l := sources()
	for _, a := range l {
		for _, b := range l {
			pieced(t, a, b)
		}
	}
	strange := strings.Split("a0=/\n\"\\ $&", "")
	for _, a := range short(2, strange) {
		for _, b := range short(2, strange) {
			pieced(t, a, b)
		}
	}
	for _, a := range short(3, strange) {
		for _, b := range short(1, strange) {
			pieced(t, a, b)
			pieced(t, b, a)
		}
	}
}

// pieced examines the tokens of a string, a line feed, and another string.
func pieced(t *testing.T, a, b string) {
	t.Helper()
	for _, pattern := range []bool{false, true} {
		first, second := scan(a, pattern), scan(b, pattern)
		if first.err != api.OK || second.err != api.OK {
			continue
		}
		want := slices.Clone(first.tokens)
		for _, x := range second.tokens {
			want = append(want, api.Token{Kind: x.Kind, Text: x.Text, At: x.At + len(a) + 1, End: x.End + len(a) + 1})
		}
		if got := scan(a+"\n"+b, pattern); !got.equal(scanned{want, 0, api.OK}) {
			t.Fatalf("%q and %q: %v, not %v", a, b, got, want)
		}
	}
}

func TestManyPieces(t *testing.T) { // P11.8
	for n := 250; n <= 350; n++ {
		a, b := strings.Repeat("a ", n), strings.Repeat("( ", 600-n)
		pieced(t, a, b)
		refuses(t, a+"\n"+b+")", 1201, api.ErrLong)
		refuses(t, a+")\n"+b, 1200, api.ErrLong)
	}
	full := strings.Repeat("a ", 600)
	pieced(t, full, "")
	pieced(t, "", full)
	pieced(t, full, "// end\n")
	pieced(t, full+"// end", " \t")
	refuses(t, full+"\n"+full, 1201, api.ErrLong)
}
