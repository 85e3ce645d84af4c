package trigram_test

import (
	"math"
	"slices"
	"strings"
	"testing"

	"codesearch/api"
	"codesearch/text"
	"codesearch/trigram"
)

const (
	upper = "ABCDEFGHIJKLMNOPQRSTUVWXYZ"
	lower = "abcdefghijklmnopqrstuvwxyz"
)

// edges are the bytes that matter to the layer: letters of both cases and the bytes next to them, the least and the greatest byte, and those around 128, which are no valid UTF-8 alone.
const edges = "aAzZ@[`{\x00\x01\x7f\x80\xfe\xff"

// folded returns the byte that c is after folding.
func folded(c byte) byte {
	if i := strings.IndexByte(upper, c); i >= 0 {
		return lower[i]
	}
	return c
}

// raised returns s with upper-case letters.
func raised(s string) string {
	b := []byte(s)
	for i, c := range b {
		if at := strings.IndexByte(lower, c); at >= 0 {
			b[i] = upper[at]
		}
	}
	return string(b)
}

// codeOf follows the definition of the code of the trigram that occurs at an offset.
func codeOf(s string, off int) int {
	code := 0
	for i := off; i < off+3; i++ {
		code = code*256 + int(folded(s[i]))
	}
	return code
}

// codesOf follows P6.2.
func codesOf(s string) []int {
	var l []int
	for off := 0; off+3 <= len(s); off++ {
		code := codeOf(s, off)
		at := 0
		for at < len(l) && l[at] < code {
			at++
		}
		if at == len(l) || l[at] != code {
			l = slices.Insert(l, at, code)
		}
	}
	return l
}

// occurrences returns the offsets at which the trigram with a code occurs, as the definition says.
func occurrences(s string, code int) []int {
	var l []int
	for off := 0; off+3 <= len(s); off++ {
		if codeOf(s, off) == code {
			l = append(l, off)
		}
	}
	return l
}

// gramsOf follows P6.3.
func gramsOf(s string) []api.Gram {
	var l []api.Gram
	for _, code := range codesOf(s) {
		l = append(l, api.Gram{Code: code, At: occurrences(s, code)})
	}
	return l
}

// offsetsOf follows P6.4.
func offsetsOf(l []api.Gram, code int) []int {
	if len(l) == 0 {
		return nil
	}
	if l[0].Code == code {
		return l[0].At
	}
	return offsetsOf(l[1:], code)
}

// sameGrams reports whether two lists have the same elements in the same order.
func sameGrams(a, b []api.Gram) bool {
	return slices.EqualFunc(a, b, func(x, y api.Gram) bool { return x.Code == y.Code && slices.Equal(x.At, y.At) })
}

// cloned returns a copy of l that shares no memory with it.
func cloned(l []api.Gram) []api.Gram {
	l = slices.Clone(l)
	for i := range l {
		l[i].At = slices.Clone(l[i].At)
	}
	return l
}

// short returns all strings of at most n of the given bytes.
func short(n int, bytes string) []string {
	all := []string{""}
	from := 0
	for range n {
		to := len(all)
		for _, s := range all[from:to] {
			for i := range len(bytes) {
				all = append(all, s+bytes[i:i+1])
			}
		}
		from = to
	}
	return all
}

// mixed returns n of the given bytes in no order, others for another seed.
func mixed(n int, bytes string, seed int) string {
	var s strings.Builder
	state := uint32(seed)*2654435761 + 12345
	for range n {
		state = state*1664525 + 1013904223
		s.WriteByte(bytes[int(state>>16)%len(bytes)])
	}
	return s.String()
}

// allBytes returns the 256 bytes in increasing order.
func allBytes() string {
	var b []byte
	for c := range 256 {
		b = append(b, byte(c))
	}
	return string(b)
}

// samples are strings of all kinds: short ones, long ones, with trigrams that are all equal, all different, and mixed.
func samples() []string {
	all := append(short(4, edges), short(7, "abA")...)
	every := allBytes()
	all = append(all, "abcab", "xABCabc", "abababa", "aBaBAbA", "AbCaBcABC", "\u00c4\u00e4\u0130\u212aK", "\xc3\x28\xe2\x82\xf0", every, every+every, strings.Repeat("aA", 50), strings.Repeat("\x00", 40), strings.Repeat("\xff", 40), strings.Repeat("abc", 30))
	for seed := range 40 {
		all = append(all, mixed(seed, edges, seed), mixed(3*seed, "abAB", seed), mixed(5*seed, every, seed), mixed(200, every[:2+seed], seed))
	}
	return all
}

func TestExamples(t *testing.T) { // the chapter's examples
	if got := trigram.Of("abcab"); !slices.Equal(got, []int{6382179, 6447969, 6512994}) {
		t.Errorf("Of is %v", got)
	}
	grams := trigram.Grams("xABCabc")
	for code, want := range map[int][]int{6382179: {1, 4}, 6447969: {2}, 6382178: nil} {
		if got := trigram.At(grams, code); !slices.Equal(got, want) {
			t.Errorf("%d occurs at %v, not at %v", code, got, want)
		}
	}
	if code, ok := trigram.Code("aBc"); code != 6382179 || !ok {
		t.Errorf("Code is %d, %v", code, ok)
	}
	if s, ok := trigram.String(6382179); s != "abc" || !ok {
		t.Errorf("String is %q, %v", s, ok)
	}
	if code, ok := trigram.Code("ab"); code != 0 || ok {
		t.Errorf("Code of two bytes is %d, %v", code, ok)
	}
	if s, ok := trigram.String(16777216); s != "" || ok {
		t.Errorf("String of a number of 25 bits is %q, %v", s, ok)
	}
	if got := trigram.At(trigram.Grams("aaaa"), 6381921); !slices.Equal(got, []int{0, 1}) {
		t.Errorf("aaa occurs at %v", got)
	}
}

func TestCodeNamed(t *testing.T) { // P6.1
	for _, x := range []struct {
		s    string
		want int
		ok   bool
	}{
		{"\x00\x00\x00", 0, true},
		{"\x00\x00\x01", 1, true},
		{"\x00\x00\xff", 255, true},
		{"\x00\x01\x00", 256, true},
		{"\x01\x00\x00", 65536, true},
		{"\x00\xff\xff", 65535, true},
		{"\xff\xff\xff", 16777215, true},
		{"\xff\xff\xfe", 16777214, true},
		{"\x80\x80\x80", 8421504, true},
		{"\x7f\x7f\x7f", 8355711, true},
		{"abc", 6382179, true},
		{"ABC", 6382179, true},
		{"aBc", 6382179, true},
		{"AZa", 6388321, true},
		{"@[`", 4217696, true},
		{"zZ{", 8026747, true},
		{"\u20ac", 14844588, true}, // one character of three bytes
		{"\u00e9a", 12822881, true},
		{"\u212a", 14845098, true}, // the sign of Kelvin is no K
		{"\xffAZ", 16736634, true},
		{"", 0, false},
		{"a", 0, false},
		{"ab", 0, false},
		{"\u00e9", 0, false},
		{"abcd", 0, false},
		{"ABCD", 0, false},
		{"\u00e9\u00e9\u00e9", 0, false}, // three characters of six bytes
		{"\u00e9ab", 0, false},           // three characters of four bytes
		{"\x00\x00", 0, false},
		{"\x00\x00\x00\x00", 0, false},
		{"abcabc", 0, false},
	} {
		if got, ok := trigram.Code(x.s); got != x.want || ok != x.ok {
			t.Errorf("Code(%q) is %d, %v, not %d, %v", x.s, got, ok, x.want, x.ok)
		}
	}
}

func TestCodeOfLengths(t *testing.T) { // P6.1
	for n := range 300 {
		for _, s := range []string{strings.Repeat("a", n), strings.Repeat("\xff", n), strings.Repeat("\u00e9", n)} {
			if got, ok := trigram.Code(s); ok != (len(s) == 3) || !ok && got != 0 {
				t.Errorf("Code of %d bytes is %d, %v", len(s), got, ok)
			}
		}
	}
	if got, ok := trigram.Code(strings.Repeat("a", 65536+3)); ok || got != 0 {
		t.Errorf("Code of 2^16 + 3 bytes is %d, %v", got, ok)
	}
}

// TestEveryCode checks all codes: their bytes, and the codes of these bytes.
func TestEveryCode(t *testing.T) { // P6.1
	code := 0
	for a := range 256 {
		for b := range 256 {
			for c := range 256 {
				s, ok := trigram.String(code)
				if len(s) != 3 || s[0] != byte(a) || s[1] != byte(b) || s[2] != byte(c) || !ok {
					t.Fatalf("String(%d) is %q, %v", code, s, ok)
				}
				want := code
				if a >= 'A' && a <= 'Z' || b >= 'A' && b <= 'Z' || c >= 'A' && c <= 'Z' {
					want = codeOf(s, 0)
				}
				if got, ok := trigram.Code(s); got != want || !ok {
					t.Fatalf("Code(%q) is %d, %v, not %d", s, got, ok, want)
				}
				code++
			}
		}
	}
}

func TestStringNamed(t *testing.T) { // P6.1
	for _, x := range []struct {
		code int
		want string
		ok   bool
	}{
		{0, "\x00\x00\x00", true},
		{1, "\x00\x00\x01", true},
		{127, "\x00\x00\x7f", true},
		{128, "\x00\x00\x80", true},
		{255, "\x00\x00\xff", true},
		{256, "\x00\x01\x00", true},
		{65535, "\x00\xff\xff", true},
		{65536, "\x01\x00\x00", true},
		{16777214, "\xff\xff\xfe", true},
		{16777215, "\xff\xff\xff", true},
		{6382179, "abc", true},
		{4276803, "ABC", true}, // not folded, though no string has this code
		{4284003, "A^c", true},
		{5921370, "ZZZ", true},
		{-1, "", false},
		{-2, "", false},
		{-6382179, "", false},
		{16777216, "", false},
		{16777217, "", false},
		{16777216 + 6382179, "", false},
		{1 << 31, "", false},
		{1 << 32, "", false},
		{1<<32 + 6382179, "", false}, // the lower bits are a code
		{-1 << 24, "", false},
		{-1<<24 + 6382179, "", false},
		{-1<<32 + 6382179, "", false},
		{math.MaxInt, "", false},
		{math.MaxInt - 1, "", false},
		{math.MinInt, "", false},
		{math.MinInt + 1, "", false},
		{math.MinInt + 6382179, "", false},
	} {
		if got, ok := trigram.String(x.code); got != x.want || ok != x.ok {
			t.Errorf("String(%d) is %q, %v, not %q, %v", x.code, got, ok, x.want, x.ok)
		}
	}
}

func TestOfNamed(t *testing.T) { // P6.2
	for _, x := range []struct {
		s    string
		want []int
	}{
		{"", nil},
		{"a", nil},
		{"ab", nil},
		{"\u00e9", nil},
		{"abc", []int{6382179}},
		{"ABC", []int{6382179}},
		{"abcd", []int{6382179, 6447972}},
		{"cba", []int{6513249}},
		{"cbab", []int{6447458, 6513249}}, // bab is less than cba
		{"aaaa", []int{6381921}},
		{"aAaA", []int{6381921}},
		{"aba\x80aba", []int{6382177, 6389857, 6447488, 8413538}},
		{"\xff\x00\xff\x00", []int{65280, 16711935}},
		{"\x00\x00\x00", []int{0}},
		{"\xff\xff\xff\xff", []int{16777215}},
		{"\x80\x80\x80\x00", []int{8421376, 8421504}},
		{"\n\n\n", []int{657930}},
	} {
		if got := trigram.Of(x.s); !slices.Equal(got, x.want) {
			t.Errorf("Of(%q) is %v, not %v", x.s, got, x.want)
		}
	}
}

func TestGramsNamed(t *testing.T) { // P6.3
	for _, x := range []struct {
		s    string
		want []api.Gram
	}{
		{"", nil},
		{"a", nil},
		{"aB", nil},
		{"aBc", []api.Gram{{Code: 6382179, At: []int{0}}}},
		{"xABCabc", []api.Gram{{Code: 6382179, At: []int{1, 4}}, {Code: 6447969, At: []int{2}}, {Code: 6512994, At: []int{3}}, {Code: 7889250, At: []int{0}}}},
		{"aaaa", []api.Gram{{Code: 6381921, At: []int{0, 1}}}},
		{"aAaAaA", []api.Gram{{Code: 6381921, At: []int{0, 1, 2, 3}}}},
		{"ababab", []api.Gram{{Code: 6382177, At: []int{0, 2}}, {Code: 6447458, At: []int{1, 3}}}}, // they overlap
		{"bABAba", []api.Gram{{Code: 6382177, At: []int{1, 3}}, {Code: 6447458, At: []int{0, 2}}}},
		{"abc abc", []api.Gram{{Code: 2122082, At: []int{3}}, {Code: 6382179, At: []int{0, 4}}, {Code: 6447904, At: []int{1}}, {Code: 6496353, At: []int{2}}}},
		{"\xff\xff\xff\x00\x00\x00", []api.Gram{{Code: 0, At: []int{3}}, {Code: 16711680, At: []int{2}}, {Code: 16776960, At: []int{1}}, {Code: 16777215, At: []int{0}}}},
	} {
		if got := trigram.Grams(x.s); !sameGrams(got, x.want) {
			t.Errorf("Grams(%q) is %v, not %v", x.s, got, x.want)
		}
	}
}

func TestOfAndGrams(t *testing.T) { // P6.2, P6.3
	for _, s := range samples() {
		if got, want := trigram.Of(s), codesOf(s); !slices.Equal(got, want) {
			t.Fatalf("Of(%q) is %v, not %v", s, got, want)
		}
		if got, want := trigram.Grams(s), gramsOf(s); !sameGrams(got, want) {
			t.Fatalf("Grams(%q) is %v, not %v", s, got, want)
		}
	}
}

func TestAllDifferentAndAllEqual(t *testing.T) { // P6.2, P6.3
	different := strings.ReplaceAll(allBytes(), upper, "")
	codes, grams := trigram.Of(different), trigram.Grams(different)
	if len(codes) != 228 || len(grams) != 228 {
		t.Fatalf("there are %d codes and %d trigrams", len(codes), len(grams))
	}
	for i, gram := range grams {
		// The bytes increase, and so do the codes of the trigrams.
		if gram.Code != codes[i] || codes[i] != codeOf(different, i) || !slices.Equal(gram.At, []int{i}) {
			t.Errorf("the trigram at %d is %v", i, gram)
		}
	}
	for c := range 256 {
		equal := strings.Repeat(string([]byte{byte(c)}), 20)
		code := 65793 * int(folded(byte(c)))
		if got := trigram.Of(equal); !slices.Equal(got, []int{code}) {
			t.Errorf("Of(%q) is %v", equal, got)
		}
		if got := trigram.Grams(equal); len(got) != 1 || got[0].Code != code || len(got[0].At) != 18 || got[0].At[0] != 0 || got[0].At[17] != 17 {
			t.Errorf("Grams(%q) is %v", equal, got)
		}
	}
}

func TestAtNamed(t *testing.T) { // P6.4
	l := []api.Gram{
		{Code: 5, At: []int{3, 1, 1, -7}}, // offsets in no order
		{Code: 2, At: []int{4}},
		{Code: 9},
		{Code: 2, At: []int{8, 9}},
		{Code: 9, At: []int{6}},
		{Code: -1, At: []int{math.MinInt, math.MaxInt}},
		{Code: math.MaxInt, At: []int{0}},
		{Code: math.MinInt, At: []int{5}},
		{Code: 1 << 24, At: []int{7}}, // no code
		{Code: 5, At: nil},
		{Code: 3, At: []int{2, 6}},
	}
	for _, x := range []struct {
		l    []api.Gram
		code int
		want []int
	}{
		{nil, 0, nil},
		{nil, 5, nil},
		{[]api.Gram{}, 0, nil},
		{[]api.Gram{{}}, 0, nil},
		{[]api.Gram{{At: []int{1}}}, 0, []int{1}},
		{l, 5, []int{3, 1, 1, -7}},
		{l, 2, []int{4}},
		{l, 9, nil}, // the first element has no offsets
		{l, -1, []int{math.MinInt, math.MaxInt}},
		{l, math.MaxInt, []int{0}},
		{l, math.MinInt, []int{5}},
		{l, 1 << 24, []int{7}},
		{l, 3, []int{2, 6}},
		{l[3:], 2, []int{8, 9}},
		{l[3:], 9, []int{6}},
		{l[9:], 5, nil},
		{l, 0, nil},
		{l, 1, nil},
		{l, 4, nil},
		{l, 6, nil},
		{l, -2, nil},
		{l, math.MaxInt - 1, nil},
		{l, 1<<32 + 5, nil},
	} {
		if got := trigram.At(x.l, x.code); !slices.Equal(got, x.want) {
			t.Errorf("At(%v, %d) is %v, not %v", x.l, x.code, got, x.want)
		}
	}
}

// anyLists returns all lists of at most three elements of a few codes and offsets.
func anyLists() [][]api.Gram {
	var elements []api.Gram
	for _, code := range []int{-1, 0, 3, 16777216} {
		for _, at := range [][]int{nil, {0}, {2, 1}, {4, 4, -1}} {
			elements = append(elements, api.Gram{Code: code, At: at})
		}
	}
	lists := [][]api.Gram{nil}
	from := 0
	for range 3 {
		to := len(lists)
		for _, l := range lists[from:to] {
			for _, e := range elements {
				lists = append(lists, append(slices.Clone(l), e))
			}
		}
		from = to
	}
	return lists
}

func TestAt(t *testing.T) { // P6.4
	for _, l := range anyLists() {
		for _, code := range []int{-2, -1, 0, 1, 3, 4, 16777215, 16777216} {
			if got, want := trigram.At(l, code), offsetsOf(l, code); !slices.Equal(got, want) {
				t.Fatalf("At(%v, %d) is %v, not %v", l, code, got, want)
			}
		}
	}
}

// TestAtOfGrams checks At for the first, the last and every other trigram of strings, and for codes that are not there.
func TestAtOfGrams(t *testing.T) { // P6.3, P6.4
	for _, s := range samples() {
		grams := trigram.Grams(s)
		for off := 0; off+3 <= len(s); off++ {
			code := codeOf(s, off)
			for _, n := range []int{code, code - 1, code + 1, -code - 1, code + 1<<24} {
				if got := trigram.At(grams, n); !slices.Equal(got, occurrences(s, n)) {
					t.Fatalf("in %q, %d occurs at %v", s, n, got)
				}
			}
		}
	}
}

// isCodeOf follows P6.5; fold is text.Fold of the string.
func isCodeOf(fold string, code int) bool {
	three, ok := trigram.String(code)
	if !ok || !strings.Contains(fold, three) {
		return false
	}
	return !strings.ContainsAny(three, upper)
}

func TestCodesOccur(t *testing.T) { // P6.5
	var codes []int
	for _, three := range short(3, edges) {
		if len(three) == 3 {
			// Here upper case stays, as String permits it.
			code := int(three[0])<<16 | int(three[1])<<8 | int(three[2])
			codes = append(codes, code)
		}
	}
	codes = append(codes, -1, 16777216, 16777217, 16777216+codeOf("aza", 0), math.MinInt, math.MaxInt)
	strs := []string{"", "a", "aZ", "AZ", "aza", "AZA", "aAzZ", "zzzz", "@[`{@", "\xff\xff\xff", "\x00\x00\x00", "\x00\x01\x7f\x80\xfe\xff", edges, edges + edges, raised(edges)}
	for seed := range 20 {
		strs = append(strs, mixed(30+seed, edges, seed), mixed(30, "aAzZ", seed))
	}
	for _, s := range strs {
		of := trigram.Of(s)
		for _, code := range codes {
			if got, want := slices.Contains(of, code), isCodeOf(text.Fold(s), code); got != want {
				t.Fatalf("whether Of(%q) has %d is %v", s, code, got)
			}
		}
	}
}

// TestEveryCodeOccurs checks all codes for one string.
func TestEveryCodeOccurs(t *testing.T) { // P6.5
	s := "abAB@[`{Z\x00\x7f\x80\xffzab \n" + mixed(60, allBytes(), 1)
	of, fold := map[int]bool{}, text.Fold(s)
	for _, code := range trigram.Of(s) {
		of[code] = true
	}
	for code := -1; code <= 1<<24; code++ {
		if got, want := of[code], isCodeOf(fold, code); got != want {
			t.Fatalf("whether %d is a code is %v", code, got)
		}
	}
}

func TestEachOffsetOnce(t *testing.T) { // P6.6
	for _, s := range samples() {
		times := make([]int, max(0, len(s)-2))
		for _, gram := range trigram.Grams(s) {
			if len(gram.At) == 0 || !slices.IsSorted(gram.At) {
				t.Fatalf("in %q, %d occurs at %v", s, gram.Code, gram.At)
			}
			for _, off := range gram.At {
				if off < 0 || off > len(s)-3 {
					t.Fatalf("in %q, %d occurs at %v", s, gram.Code, gram.At)
				}
				times[off]++
				if code, ok := trigram.Code(s[off : off+3]); code != gram.Code || !ok {
					t.Fatalf("in %q, %d occurs at %d, not %d", s, code, off, gram.Code)
				}
			}
		}
		for off, n := range times {
			if n != 1 {
				t.Fatalf("in %q, the offset %d is in %d lists", s, off, n)
			}
		}
	}
}

func TestCaseMakesNoDifference(t *testing.T) { // P6.7
	for _, s := range append(samples(), upper, lower, upper+lower) {
		code, ok := trigram.Code(s)
		of, grams := trigram.Of(s), trigram.Grams(s)
		for _, other := range []string{text.Fold(s), raised(s)} {
			if got, gotOk := trigram.Code(other); got != code || gotOk != ok {
				t.Fatalf("Code(%q) is %d, %v, but Code(%q) %d, %v", s, code, ok, other, got, gotOk)
			}
			if got := trigram.Of(other); !slices.Equal(got, of) {
				t.Fatalf("Of(%q) is %v, but Of(%q) %v", s, of, other, got)
			}
			if got := trigram.Grams(other); !sameGrams(got, grams) {
				t.Fatalf("Grams(%q) is %v, but Grams(%q) %v", s, grams, other, got)
			}
		}
	}
	// Each letter alone, and the bytes that differ from another one as upper case differs from lower case.
	for c := range 256 {
		low, high := string([]byte{'.', byte(c), '.'}), string([]byte{'.', byte(c) ^ 32, '.'})
		x, _ := trigram.Code(low)
		y, _ := trigram.Code(high)
		if letter := strings.IndexByte(lower+upper, byte(c)) >= 0; (x == y) != letter {
			t.Errorf("the codes of %q and %q are %d and %d", low, high, x, y)
		}
	}
}

func TestJoinedNamed(t *testing.T) { // P6.8
	for _, x := range []struct {
		a, b string
		want []int // the codes of the joined strings that neither of them has
	}{
		{"", "", nil},
		{"abc", "", nil},
		{"", "abc", nil},
		{"a", "b", nil},
		{"a", "bc", []int{6382179}},
		{"ab", "c", []int{6382179}},
		{"Ab", "C", []int{6382179}},
		{"ab", "cd", []int{6382179, 6447972}},
		{"abc", "d", []int{6447972}},
		{"a", "bcd", []int{6382179}},
		{"abc", "def", []int{6447972, 6513765}},
		{"aaa", "aaa", nil}, // those across the joint are not new
		{"aaa", "A", nil},
		{"aa", "aa", []int{6381921}}, // both across the joint are the same
		{"abab", "abab", nil},
		{"ababc", "abab", []int{6447969, 6512994}},
		{"cab", "cab", []int{6382179, 6447969}},
		{"bcab", "cab", []int{6382179}}, // bca is not new
		{"bca", "bcab", []int{6382179}}, // cab is not new
		{"\xff\xff", "\x00\x00", []int{16711680, 16776960}},
	} {
		joined, parts := trigram.Of(x.a+x.b), append(trigram.Of(x.a), trigram.Of(x.b)...)
		var others []int
		for _, code := range joined {
			if !slices.Contains(parts, code) {
				others = append(others, code)
			}
		}
		if !slices.Equal(others, x.want) {
			t.Errorf("%q and %q joined have the others %v, not %v", x.a, x.b, others, x.want)
		}
	}
}

func TestJoined(t *testing.T) { // P6.8
	strs := append(short(4, "abA"), short(2, edges)...)
	strs = append(strs, "abcab", "bcabca", allBytes(), mixed(50, "abcABC", 1), mixed(50, edges, 2), mixed(100, edges, 3))
	counts := [3]int{}
	for _, a := range strs {
		for _, b := range strs {
			joined, ofA, ofB := trigram.Of(a+b), trigram.Of(a), trigram.Of(b)
			others := len(joined)
			for _, code := range joined {
				if slices.Contains(ofA, code) || slices.Contains(ofB, code) {
					others--
				}
			}
			for _, code := range append(ofA, ofB...) {
				if !slices.Contains(joined, code) {
					t.Fatalf("Of(%q) has no %d", a+b, code)
				}
			}
			if others > 2 {
				t.Fatalf("Of(%q) is %v, with %d others than Of(%q) and Of(%q)", a+b, joined, others, a, b)
			}
			counts[others]++
		}
	}
	if counts[0] == 0 || counts[1] == 0 || counts[2] == 0 {
		t.Errorf("the numbers of others are %v", counts)
	}
}

// spoil changes all of the memory that belongs to a list of offsets or codes.
func spoil(l []int) {
	l = l[:cap(l)]
	for i := range l {
		l[i] ^= 1 << 40
	}
}

// TestResultsAreNew checks that no result shares memory with another one, and none of the lists of Grams with another list.
func TestResultsAreNew(t *testing.T) { // P6.2, P6.3; LANGUAGE.md, rule 7
	for _, s := range []string{"abcab", "aaaa", "ABabab", "abcABCabc", edges + edges, mixed(300, "abAB", 1)} {
		codes, grams := trigram.Of(s), trigram.Grams(s)
		spoil(codes)
		if got := trigram.Of(s); !slices.Equal(got, codesOf(s)) {
			t.Fatalf("Of(%q) is then %v", s, got)
		}
		for i := range grams {
			want := gramsOf(s)
			spoil(grams[i].At)
			grams[i].Code++
			for j, gram := range grams {
				if j > i && (gram.Code != want[j].Code || !slices.Equal(gram.At, want[j].At)) {
					t.Fatalf("after a change of trigram %d of %q, trigram %d is %v", i, s, j, gram)
				}
			}
		}
		if got := trigram.Grams(s); !sameGrams(got, gramsOf(s)) {
			t.Fatalf("Grams(%q) is then %v", s, got)
		}
	}
}

// TestListsStay checks that At leaves its list as it is, does not look behind its end, and returns no memory of it.
func TestListsStay(t *testing.T) { // P6.4; LANGUAGE.md, rule 7
	for _, l := range anyLists() {
		whole := append(cloned(l), api.Gram{Code: 7, At: []int{7}}, api.Gram{Code: 3, At: []int{9}})
		for i := range whole {
			// Numbers behind the end of the offsets belong to their capacity.
			whole[i].At = append(whole[i].At, 77, -7)[:len(whole[i].At)]
		}
		was := cloned(whole)
		given := whole[:len(l)]
		for _, code := range []int{-1, 0, 3, 7, 16777216} {
			got := trigram.At(given, code)
			if want := offsetsOf(l, code); !slices.Equal(got, want) {
				t.Fatalf("At(%v, %d) is %v, not %v", l, code, got, want)
			}
			again := trigram.At(given, code)
			spoil(got)
			if !sameGrams(whole, was) || !slices.Equal(again, offsetsOf(l, code)) {
				t.Fatalf("after a change of the result of At(%v, %d) the list is %v, another result %v", l, code, whole, again)
			}
			for _, gram := range whole {
				if behind := gram.At[:len(gram.At)+2]; behind[len(behind)-2] != 77 || behind[len(behind)-1] != -7 {
					t.Fatalf("At(%v, %d) changes what is behind the offsets", l, code)
				}
			}
		}
	}
	l := []api.Gram{{Code: 3, At: []int{1, 2}}}
	got := trigram.At(l, 3)
	l[0].At[0] = 9
	if !slices.Equal(got, []int{1, 2}) {
		t.Errorf("a change of the list changes the result to %v", got)
	}
}

// TestSameAgain checks that results do not depend on the order of a map or on earlier calls.
func TestSameAgain(t *testing.T) { // P6.2, P6.3
	s := mixed(400, allBytes(), 7)
	codes, grams := codesOf(s), gramsOf(s)
	for range 50 {
		if got := trigram.Of(s); !slices.Equal(got, codes) {
			t.Fatalf("Of is %v", got)
		}
		if got := trigram.Grams(s); !sameGrams(got, grams) {
			t.Fatalf("Grams is %v", got)
		}
		trigram.Grams("abc" + s[:100])
	}
}

// TestLarge checks strings that are so long that time for each offset that grows with the length would be too long.
func TestLarge(t *testing.T) { // P6.2, P6.3, P6.6
	const n = 1000000
	equal := strings.Repeat("aA", n/2)
	if got := trigram.Of(equal); !slices.Equal(got, []int{6381921}) {
		t.Errorf("Of a letter many times is %.40v", got)
	}
	if got := trigram.At(trigram.Grams(equal), 6381921); len(got) != n-2 || got[0] != 0 || got[n-3] != n-3 || !slices.IsSorted(got) {
		t.Errorf("aaa occurs %d times", len(got))
	}
	s := mixed(n, allBytes(), 3)
	codes, grams, offsets := trigram.Of(s), trigram.Grams(s), 0
	if len(codes) != len(grams) {
		t.Fatalf("there are %d codes and %d trigrams", len(codes), len(grams))
	}
	for i, gram := range grams {
		if gram.Code != codes[i] || i > 0 && codes[i] <= codes[i-1] || !slices.IsSorted(gram.At) {
			t.Fatalf("trigram %d is %d, %v", i, gram.Code, gram.At)
		}
		for _, off := range gram.At {
			if codeOf(s, off) != gram.Code {
				t.Fatalf("%d does not occur at %d", gram.Code, off)
			}
		}
		offsets += len(gram.At)
	}
	if offsets != n-2 {
		t.Errorf("there are %d offsets", offsets)
	}
}
