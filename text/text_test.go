package text_test

import (
	"math"
	"slices"
	"strings"
	"testing"

	"codesearch/api"
	"codesearch/text"
)

// short returns all strings of at most n of the bytes that matter to the layer: letters of both cases, a digit, a blank, a line feed, and a byte that is not valid.
func short(n int) []string {
	all := []string{""}
	for from := 0; n > 0; n-- {
		to := len(all)
		for _, s := range all[from:to] {
			for _, c := range []byte("aZ7 \n\x80") {
				all = append(all, s+string([]byte{c}))
			}
		}
		from = to
	}
	return all
}

// someInts are numbers around the offsets of short strings, and the extreme ones.
func someInts() []int {
	ints := []int{math.MinInt, math.MinInt + 1, math.MinInt32, math.MaxInt32, math.MaxInt - 1, math.MaxInt}
	for i := -3; i <= 9; i++ {
		ints = append(ints, i)
	}
	return ints
}

// owners returns, for each byte of s, the index of the line that has it, and how many lines there are; it follows the definitions byte by byte.
func owners(s string) ([]int, int) {
	var owner []int
	lines, open := 0, false
	for i := range len(s) {
		if !open {
			lines++
		}
		owner = append(owner, lines-1)
		open = s[i] != '\n'
	}
	return owner, lines
}

func isWord(c byte) bool {
	return strings.IndexByte("abcdefghijklmnopqrstuvwxyzABCDEFGHIJKLMNOPQRSTUVWXYZ0123456789_", c) >= 0
}

func TestValidBytes(t *testing.T) { // P1.1
	for c := range 256 {
		want := c == 9 || c == 10 || c >= 32 && c <= 126
		for _, s := range []string{
			string([]byte{byte(c)}),
			string([]byte{byte(c), 'a', 'b'}),
			string([]byte{'a', byte(c), 'b'}),
			string([]byte{'a', 'b', byte(c)}),
		} {
			if got := text.Valid(s); got != want {
				t.Errorf("Valid(%q) is %v", s, got)
			}
		}
	}
}

func TestValidLength(t *testing.T) { // P1.1
	if api.MaxText != 2000 {
		t.Fatalf("MaxText is %d", api.MaxText)
	}
	for _, x := range []struct {
		s    string
		want bool
	}{
		{"", true},
		{strings.Repeat("a", api.MaxText-1), true},
		{strings.Repeat("a", api.MaxText), true},
		{strings.Repeat("\n", api.MaxText), true},
		{strings.Repeat("a", api.MaxText+1), false},
		{strings.Repeat("\n", api.MaxText+1), false},
		{strings.Repeat("a", api.MaxText-1) + "\r", false},
		{strings.Repeat("a", api.MaxText-1) + "\u00e9", false},
		{strings.Repeat("a", 100*api.MaxText), false},
	} {
		if got := text.Valid(x.s); got != x.want {
			t.Errorf("Valid of %d bytes (%.10q..) is %v", len(x.s), x.s, got)
		}
	}
}

func TestLinesAndStarts(t *testing.T) { // P1.2
	for _, x := range []struct {
		s      string
		lines  []string
		starts []int
	}{
		{"", nil, nil},
		{"a", []string{"a"}, []int{0}},
		{"a\n", []string{"a"}, []int{0}},
		{"\n", []string{""}, []int{0}},
		{"\n\n", []string{"", ""}, []int{0, 1}},
		{"\n\n\n", []string{"", "", ""}, []int{0, 1, 2}},
		{"a\n\n", []string{"a", ""}, []int{0, 2}},
		{"\na", []string{"", "a"}, []int{0, 1}},
		{"ab\n\nc\n", []string{"ab", "", "c"}, []int{0, 3, 4}},
		{"ab\n\n\nc", []string{"ab", "", "", "c"}, []int{0, 3, 4, 5}},
		{"a\r\nb\v\x80\xff\n", []string{"a\r", "b\v\x80\xff"}, []int{0, 3}},
		{"a\u2028b\x85c", []string{"a\u2028b\x85c"}, []int{0}},
	} {
		if got := text.Lines(x.s); !slices.Equal(got, x.lines) {
			t.Errorf("Lines(%q) are %q, not %q", x.s, got, x.lines)
		}
		if got := text.Starts(x.s); !slices.Equal(got, x.starts) {
			t.Errorf("Starts(%q) are %v, not %v", x.s, got, x.starts)
		}
	}
}

func TestLinesOfAllShortStrings(t *testing.T) { // P1.2
	for _, s := range short(5) {
		owner, n := owners(s)
		lines, starts := make([]string, n), make([]int, n)
		for i := len(s) - 1; i >= 0; i-- {
			starts[owner[i]] = i
			if s[i] != '\n' {
				lines[owner[i]] = s[i:i+1] + lines[owner[i]]
			}
		}
		if got := text.Lines(s); !slices.Equal(got, lines) {
			t.Fatalf("Lines(%q) are %q, not %q", s, got, lines)
		}
		if got := text.Starts(s); !slices.Equal(got, starts) {
			t.Fatalf("Starts(%q) are %v, not %v", s, got, starts)
		}
	}
}

// TestLong checks that a text that is far too long to be valid is divided as any other string.
func TestLong(t *testing.T) { // P1.2, P1.3, P1.4, P1.6, P1.7
	const n = 50000
	s := strings.Repeat("ab \n", n)
	lines, starts, words := text.Lines(s), text.Starts(s), text.Words(s)
	if len(lines) != n || lines[n-1] != "ab " || len(starts) != n || starts[n-1] != 4*n-4 || len(words) != n || words[n-1] != (api.Span{At: 4*n - 4, End: 4*n - 2}) {
		t.Errorf("there are %d lines, %d starts, %d words", len(lines), len(starts), len(words))
	}
	last := api.Pos{Line: n, Col: 4}
	if p, ok := text.At(s, 4*n-1); !ok || p != last {
		t.Errorf("At is %v %v", p, ok)
	}
	if off, ok := text.Off(s, last); !ok || off != 4*n-1 {
		t.Errorf("Off is %v %v", off, ok)
	}
	if text.Excerpt(s, api.Span{At: 4, End: 4 * n}, 1) != s {
		t.Errorf("Excerpt does not return the whole text")
	}
}

func TestAt(t *testing.T) { // P1.3
	const s = "ab\n\nc\n"
	want := []api.Pos{{Line: 1, Col: 1}, {Line: 1, Col: 2}, {Line: 1, Col: 3}, {Line: 2, Col: 1}, {Line: 3, Col: 1}, {Line: 3, Col: 2}}
	for off, p := range want {
		if got, ok := text.At(s, off); !ok || got != p {
			t.Errorf("At(%q, %d) is %v %v, not %v", s, off, got, ok, p)
		}
	}
	for _, off := range []int{-1, len(s), len(s) + 1, math.MaxInt, math.MinInt} {
		if got, ok := text.At(s, off); ok || got != (api.Pos{}) {
			t.Errorf("At(%q, %d) is %v %v", s, off, got, ok)
		}
	}
	if got, ok := text.At("", 0); ok || got != (api.Pos{}) {
		t.Errorf("At of the empty string is %v %v", got, ok)
	}
	if got, ok := text.At("\x80\xff\r\n", 3); !ok || got != (api.Pos{Line: 1, Col: 4}) {
		t.Errorf("At behind bytes that are not valid is %v %v", got, ok)
	}
}

func TestOff(t *testing.T) { // P1.4
	for _, x := range []struct {
		s    string
		p    api.Pos
		want int
		ok   bool
	}{
		{"ab\n\nc", api.Pos{Line: 1, Col: 1}, 0, true},
		{"ab\n\nc", api.Pos{Line: 1, Col: 3}, 2, true}, // the line feed
		{"ab\n\nc", api.Pos{Line: 1, Col: 4}, 0, false},
		{"ab\n\nc", api.Pos{Line: 2, Col: 1}, 3, true}, // an empty line has its line feed
		{"ab\n\nc", api.Pos{Line: 2, Col: 2}, 0, false},
		{"ab\n\nc", api.Pos{Line: 3, Col: 1}, 4, true},
		{"ab\n\nc", api.Pos{Line: 3, Col: 2}, 0, false}, // no line feed at the end
		{"ab\n\nc", api.Pos{Line: 4, Col: 1}, 0, false},
		{"ab\n\nc", api.Pos{Line: 2, Col: 0}, 0, false},
		{"ab\n\nc", api.Pos{Line: 2, Col: -1}, 0, false},
		{"ab\n\nc", api.Pos{Line: 0, Col: 1}, 0, false},
		{"ab\n\nc", api.Pos{Line: -1, Col: 1}, 0, false},
		{"ab\n\nc", api.Pos{Line: math.MinInt, Col: math.MinInt}, 0, false},
		{"ab\n\nc", api.Pos{Line: math.MaxInt, Col: math.MaxInt}, 0, false},
		{"ab\n\nc", api.Pos{Line: 2, Col: math.MaxInt}, 0, false},
		{"ab\n\nc", api.Pos{Line: 2, Col: math.MinInt}, 0, false},
		{"ab\n\nc", api.Pos{Line: math.MaxInt, Col: 1}, 0, false},
		{"ab\n\nc", api.Pos{Line: math.MinInt, Col: 1}, 0, false},
		{"c\n", api.Pos{Line: 1, Col: 2}, 1, true},
		{"c\n", api.Pos{Line: 1, Col: 3}, 0, false},
		{"c\n", api.Pos{Line: 2, Col: 1}, 0, false}, // it begins no further line
		{"", api.Pos{Line: 1, Col: 1}, 0, false},
		{"", api.Pos{}, 0, false},
		{"\xff\n\x80", api.Pos{Line: 2, Col: 1}, 2, true},
	} {
		if got, ok := text.Off(x.s, x.p); got != x.want || ok != x.ok {
			t.Errorf("Off(%q, %v) is %d %v, not %d %v", x.s, x.p, got, ok, x.want, x.ok)
		}
	}
}

func TestFold(t *testing.T) { // P1.5
	for c := range 256 {
		want := byte(c)
		if i := strings.IndexByte("ABCDEFGHIJKLMNOPQRSTUVWXYZ", want); i >= 0 {
			want = "abcdefghijklmnopqrstuvwxyz"[i]
		}
		if got := text.Fold(string([]byte{'x', byte(c), 'Y'})); got != string([]byte{'x', want, 'y'}) {
			t.Errorf("Fold changes the byte %d to %q", c, got)
		}
	}
	for _, x := range []struct{ s, want string }{
		{"", ""},
		{"aB_Z", "ab_z"},
		{"@AZ[`az{", "@az[`az{"},
		{"\u00c4\u0130\u212a", "\u00c4\u0130\u212a"}, // letters beyond A to Z
		{"A\xff\xc3Z\n", "a\xff\xc3z\n"},
	} {
		if got := text.Fold(x.s); got != x.want {
			t.Errorf("Fold(%q) is %q, not %q", x.s, got, x.want)
		}
	}
}

func TestWords(t *testing.T) { // P1.6
	for _, x := range []struct {
		s    string
		want []api.Span
	}{
		{"", nil},
		{" \n\t+-", nil},
		{"a", []api.Span{{At: 0, End: 1}}},
		{"_", []api.Span{{At: 0, End: 1}}},
		{"a_1 +b", []api.Span{{At: 0, End: 3}, {At: 5, End: 6}}},
		{" 9aZ ", []api.Span{{At: 1, End: 4}}},
		{"a\nb", []api.Span{{At: 0, End: 1}, {At: 2, End: 3}}},
		{"a-b.c\n", []api.Span{{At: 0, End: 1}, {At: 2, End: 3}, {At: 4, End: 5}}},
		{"\u00e9x\x80y", []api.Span{{At: 2, End: 3}, {At: 4, End: 5}}},
	} {
		if got := text.Words(x.s); !slices.Equal(got, x.want) {
			t.Errorf("Words(%q) are %v, not %v", x.s, got, x.want)
		}
	}
	for c := range 256 {
		var want []api.Span
		if isWord(byte(c)) {
			want = []api.Span{{At: 1, End: 2}}
		}
		if got := text.Words(string([]byte{'.', byte(c), '.'})); !slices.Equal(got, want) {
			t.Errorf("the words around the byte %d are %v", c, got)
		}
	}
}

func TestExcerpt(t *testing.T) { // P1.7
	const s = "a\nb\nc\nd"
	for _, x := range []struct {
		s      string
		at     int
		end    int
		around int
		want   string
	}{
		{s, 2, 3, 0, "b\n"},
		{s, 2, 3, 1, "a\nb\nc\n"},
		{s, 2, 3, 2, "a\nb\nc\nd\n"},
		{s, 2, 3, math.MaxInt, "a\nb\nc\nd\n"},
		{s, 4, 4, math.MaxInt, "a\nb\nc\nd\n"},
		{s, 6, 7, 2, "b\nc\nd\n"},
		{s, 1, 2, 0, "a\n"}, // a line feed belongs to the line that it ends
		{s, 1, 1, 0, "a\n"},
		{s, 2, 2, 0, "b\n"},
		{s, 2, 4, 0, "b\n"}, // the byte at End does not belong to the span
		{s, 2, 5, 0, "b\nc\n"},
		{s, 0, 7, 0, "a\nb\nc\nd\n"},
		{s, 7, 7, 0, "d\n"},
		{s, 7, 7, 1, "c\nd\n"},
		{"a\n", 2, 2, 0, "a\n"},
		{"a\n\n", 3, 3, 0, "\n"},
		{"a\n\n", 2, 3, 1, "a\n\n"},
		{"\n", 0, 0, 0, "\n"},
		{"\n", 0, 1, 5, "\n"},
		{"\x80\nB\xff", 3, 4, 0, "B\xff\n"},
		{"", 0, 0, 0, ""},
		{"", 0, 0, math.MaxInt, ""},
		{s, -1, 2, 0, ""},
		{s, -1, -1, 0, ""},
		{s, 3, 2, 0, ""},
		{s, 0, 8, 0, ""},
		{s, 8, 8, 0, ""},
		{s, 0, 2, -1, ""},
		{s, 0, 2, math.MinInt, ""},
		{s, math.MinInt, math.MaxInt, 0, ""},
		{s, math.MaxInt, math.MinInt, 0, ""},
		{s, 0, math.MinInt, 0, ""},
		{s, 0, math.MaxInt, 0, ""},
		{s, math.MaxInt, math.MaxInt, 0, ""},
	} {
		if got := text.Excerpt(x.s, api.Span{At: x.at, End: x.end}, x.around); got != x.want {
			t.Errorf("Excerpt(%q, %d to %d, %d) is %q, not %q", x.s, x.at, x.end, x.around, got, x.want)
		}
	}
}

// excerpt follows the wording of P1.7: which lines a span touches is asked of every byte.
func excerpt(s string, x api.Span, around int) string {
	if !(0 <= x.At && x.At <= x.End && x.End <= len(s)) || around < 0 || s == "" {
		return ""
	}
	owner, n := owners(s)
	var touched []int
	switch {
	case x.At < x.End:
		touched = owner[x.At:x.End]
	case x.At < len(s):
		touched = []int{owner[x.At]}
	default:
		touched = []int{n - 1}
	}
	lines, got := text.Lines(s), ""
	for i := range n {
		// The lines that are touched follow one after the other.
		before := touched[0] - i
		after := i - touched[len(touched)-1]
		if before <= around && after <= around {
			got += lines[i] + "\n"
		}
	}
	return got
}

func TestExcerptOfAllShortStrings(t *testing.T) { // P1.7
	ints := someInts()
	for _, s := range short(3) {
		for _, at := range ints {
			for _, end := range ints {
				for _, around := range ints {
					x := api.Span{At: at, End: end}
					if got, want := text.Excerpt(s, x, around), excerpt(s, x, around); got != want {
						t.Fatalf("Excerpt(%q, %v, %d) is %q, not %q", s, x, around, got, want)
					}
				}
			}
		}
	}
	for _, s := range []string{"\n\na\n\n\nZ\n", "a\nbb\n\nccc\nd", "a\nb\nc\nd\ne\nf\n\n\n"} {
		for at := range len(s) + 1 {
			for end := at; end <= len(s); end++ {
				for around := range 9 {
					x := api.Span{At: at, End: end}
					if got, want := text.Excerpt(s, x, around), excerpt(s, x, around); got != want {
						t.Fatalf("Excerpt(%q, %v, %d) is %q, not %q", s, x, around, got, want)
					}
				}
			}
		}
	}
}

func TestAtAndOffInvertEachOther(t *testing.T) { // P1.8, and P1.3 and P1.4 for all arguments
	ints := someInts()
	for _, s := range short(4) {
		owner, _ := owners(s)
		for _, off := range ints {
			p, ok := text.At(s, off)
			if ok != (off >= 0 && off < len(s)) || !ok && p != (api.Pos{}) {
				t.Fatalf("At(%q, %d) is %v %v", s, off, p, ok)
			}
			if !ok {
				continue
			}
			if p.Line != owner[off]+1 || p.Col != off-slices.Index(owner, owner[off])+1 {
				t.Fatalf("At(%q, %d) is %v", s, off, p)
			}
			if back, ok := text.Off(s, p); !ok || back != off {
				t.Fatalf("Off(%q, %v) is %d %v, not %d", s, p, back, ok, off)
			}
		}
		found := 0
		for _, line := range ints {
			for _, col := range ints {
				p := api.Pos{Line: line, Col: col}
				off, ok := text.Off(s, p)
				if !ok && off != 0 {
					t.Fatalf("Off(%q, %v) is %d %v", s, p, off, ok)
				}
				if !ok {
					continue
				}
				found++
				if back, ok := text.At(s, off); !ok || back != p {
					t.Fatalf("At(%q, %d) is %v %v, not %v", s, off, back, ok, p)
				}
			}
		}
		if found != len(s) {
			t.Fatalf("%q has %d positions", s, found)
		}
	}
}

func TestPositionsIncrease(t *testing.T) { // P1.8
	for _, s := range short(5) {
		before := api.Pos{}
		for off := range len(s) {
			p, _ := text.At(s, off)
			if p.Line < before.Line || p.Line == before.Line && p.Col <= before.Col {
				t.Fatalf("in %q, %v comes after %v", s, p, before)
			}
			before = p
		}
	}
}

func TestJoinedLines(t *testing.T) { // P1.9
	for _, s := range short(5) {
		if got := strings.Join(text.Lines(s), "\n"); got != strings.TrimSuffix(s, "\n") {
			t.Fatalf("the lines of %q are joined to %q", s, got)
		}
		for _, line := range text.Lines(s) {
			if strings.Contains(line, "\n") {
				t.Fatalf("the line %q of %q has a line feed", line, s)
			}
		}
	}
}

func TestWordsOfAllShortStrings(t *testing.T) { // P1.10, P1.6
	for _, s := range short(5) {
		words, end, inside := text.Words(s), -1, 0
		for _, w := range words {
			if w.At <= end || w.At >= w.End || w.End > len(s) {
				t.Fatalf("Words(%q) are %v", s, words)
			}
			for i := w.At; i < w.End; i++ {
				if !isWord(s[i]) {
					t.Fatalf("Words(%q) are %v", s, words)
				}
			}
			end = w.End
			inside += w.End - w.At
		}
		for i := range len(s) {
			if isWord(s[i]) {
				inside--
			}
		}
		if inside != 0 {
			t.Fatalf("Words(%q) do not contain all word bytes: %v", s, words)
		}
	}
}

func TestFoldedStrings(t *testing.T) { // P1.10
	for _, s := range append(short(5), "aB_Z 09\n\xc3\x84X", "K\u212a", "\x00A\x7fZ\xff") {
		f := text.Fold(s)
		if text.Fold(f) != f {
			t.Fatalf("Fold of Fold of %q is %q", s, text.Fold(f))
		}
		if len(f) != len(s) || !slices.Equal(text.Words(f), text.Words(s)) {
			t.Fatalf("Fold changes the words of %q", s)
		}
	}
}

func TestResultsAreNew(t *testing.T) { // DOC.md, Memory: what a caller does with a result changes no later one
	const s = "ab\ncd"
	text.Lines(s)[0] = "changed"
	text.Starts(s)[0] = 9
	text.Words(s)[0] = api.Span{At: 9, End: 9}
	if text.Lines(s)[0] != "ab" || text.Starts(s)[0] != 0 || text.Words(s)[0] != (api.Span{At: 0, End: 2}) {
		t.Errorf("a result has changed")
	}
}
