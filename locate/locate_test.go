package locate_test

import (
	"math"
	"slices"
	"strings"
	"testing"

	"codesearch/api"
	"codesearch/locate"
	"codesearch/text"
	"codesearch/trigram"
)

const (
	upper = "ABCDEFGHIJKLMNOPQRSTUVWXYZ"
	lower = "abcdefghijklmnopqrstuvwxyz"
)

// edges are letters of both cases and the bytes next to them, the least and the greatest byte, and those around 128, which are no valid UTF-8 alone.
const edges = "aAzZ@[`{\x00\x7f\x80\xff"

// The codes of a few trigrams.
const (
	aaa      = 6381921
	abc      = 6382179
	bca      = 6447969
	cab      = 6512994
	upperABC = 4276803 // not folded: no string has it
)

// folded returns the byte that c is after folding.
func folded(c byte) byte {
	if i := strings.IndexByte(upper, c); i >= 0 {
		return lower[i]
	}
	return c
}

// raised returns s with upper-case letters.
func raised(s string) string {
	b := []byte(s)
	for i, c := range b {
		if at := strings.IndexByte(lower, c); at >= 0 {
			b[i] = upper[at]
		}
	}
	return string(b)
}

// occurs follows the definition, byte by byte.
func occurs(s, lit string, off int, fold bool) bool {
	if len(s)-off < len(lit) {
		return false
	}
	for i := range len(lit) {
		x, y := s[off+i], lit[i]
		if x != y && !(fold && folded(x) == folded(y)) {
			return false
		}
	}
	return true
}

// findOf follows P7.1.
func findOf(s, lit string, fold bool) []int {
	var l []int
	for off := 0; off <= len(s); off++ {
		if occurs(s, lit, off, fold) {
			l = append(l, off)
		}
	}
	return l
}

// codeOf returns the code of the trigram of lit at an offset.
func codeOf(lit string, off int) int {
	return int(folded(lit[off]))<<16 | int(folded(lit[off+1]))<<8 | int(folded(lit[off+2]))
}

// codesOf follows P7.2.
func codesOf(lit string) []int {
	var l []int
	for off := 0; off+3 <= len(lit); off++ {
		if code := codeOf(lit, off); !slices.Contains(l, code) {
			l = append(l, code)
		}
	}
	slices.Sort(l)
	return l
}

// possibleOf follows P7.3.
func possibleOf(codes []int, lit string) bool {
	for off := 0; off+3 <= len(lit); off++ {
		if !slices.Contains(codes, codeOf(lit, off)) {
			return false
		}
	}
	return true
}

// offsetsOf returns the offsets of the first element with a code.
func offsetsOf(l []api.Gram, code int) []int {
	at := slices.IndexFunc(l, func(gram api.Gram) bool { return gram.Code == code })
	if at < 0 {
		return nil
	}
	return l[at].At
}

// candidatesOf follows P7.4. Only the offsets of the trigram at 0 can be candidates.
func candidatesOf(l []api.Gram, lit string) ([]int, bool) {
	if len(lit) < 3 {
		return nil, false
	}
	var candidates []int
	for _, n := range offsetsOf(l, codeOf(lit, 0)) {
		holds := n >= 0 && !slices.Contains(candidates, n)
		for i := 0; holds && i+3 <= len(lit); i++ {
			// A sum of two numbers that are not negative fits into 64 bits without a sign.
			holds = slices.ContainsFunc(offsetsOf(l, codeOf(lit, i)), func(off int) bool {
				return off >= 0 && uint64(off) == uint64(n)+uint64(i)
			})
		}
		if holds {
			candidates = append(candidates, n)
		}
	}
	slices.Sort(candidates)
	return candidates, true
}

// countOf follows P7.5: it examines all sets of occurrences.
func countOf(s, lit string, fold bool) int {
	found := findOf(s, lit, fold)
	overlap := func(x, y int) bool { return x < y+len(lit) && x+len(lit) > y }
	most := 0
	for set := range 1 << len(found) {
		var chosen []int
		apart := true
		for i, off := range found {
			if set>>i&1 == 0 {
				continue
			}
			apart = apart && !slices.ContainsFunc(chosen, func(other int) bool { return overlap(other, off) })
			chosen = append(chosen, off)
		}
		if apart {
			most = max(most, len(chosen))
		}
	}
	return most
}

// mostApart is countOf for long strings: the greatest number in the rest of s, from its end to its beginning.
func mostApart(s, lit string, fold bool) int {
	if lit == "" {
		return len(s) + 1
	}
	most := make([]int, len(s)+1)
	for off := len(s) - 1; off >= 0; off-- {
		most[off] = most[off+1]
		if occurs(s, lit, off, fold) {
			most[off] = max(most[off], 1+most[off+len(lit)])
		}
	}
	return most[0]
}

// short returns all strings of at most n of the given bytes.
func short(n int, bytes string) []string {
	all := []string{""}
	from := 0
	for range n {
		to := len(all)
		for _, s := range all[from:to] {
			for i := range len(bytes) {
				all = append(all, s+bytes[i:i+1])
			}
		}
		from = to
	}
	return all
}

// mixer returns a function that returns numbers from 0 to n - 1 in no order, others for another seed.
func mixer(seed int) func(n int) int {
	state := uint32(seed)*2654435761 + 12345
	return func(n int) int {
		state = state*1664525 + 1013904223
		return int(state>>16) % n
	}
}

// mixed returns n of the given bytes in no order.
func mixed(n int, bytes string, seed int) string {
	next := mixer(seed)
	var s strings.Builder
	for range n {
		s.WriteByte(bytes[next(len(bytes))])
	}
	return s.String()
}

// allBytes returns the 256 bytes in increasing order.
func allBytes() string {
	var b []byte
	for c := range 256 {
		b = append(b, byte(c))
	}
	return string(b)
}

// fibonacci returns a string that repeats its parts without being periodic.
func fibonacci(n int) string {
	a, b := "a", "ab"
	for range n {
		a, b = b, b+a
	}
	return b
}

// pair is a string and one that is looked for in it.
type pair struct{ s, lit string }

// pairs are strings of all kinds with strings that are parts of them, nearly parts of them, and neither.
func pairs() []pair {
	var all []pair
	add := func(strs, lits []string) {
		for _, s := range strs {
			for _, lit := range lits {
				all = append(all, pair{s, lit})
			}
		}
	}
	add(short(5, "abA"), short(4, "abA"))
	add(short(8, "ab"), short(6, "ab"))
	add(short(2, edges), short(2, edges))
	add(short(3, edges), short(1, edges))
	all = append(all, alike()...)
	for seed := range 60 {
		for _, bytes := range []string{"ab", "abAB", "abc", edges, allBytes()} {
			s, next := mixed(10+3*seed, bytes, seed), mixer(seed+1000)
			for range 6 {
				at := next(len(s) + 1)
				lit := s[at : at+next(min(12, len(s)-at)+1)]
				all = append(all, pair{s, lit}, pair{s, raised(lit)}, pair{raised(s), lit}, pair{s, lit + bytes[:1]}, pair{s, bytes[1:2] + lit})
			}
		}
	}
	return all
}

// alike are strings that agree with their own parts at many offsets.
func alike() []pair {
	var all []pair
	fib := fibonacci(8)
	for n := 1; n < len(fib); n += 7 {
		all = append(all, pair{fib, fib[:n]}, pair{fib, fib[n:]}, pair{fib, fib[n/2 : n]}, pair{fib + "c" + fib, fib[:n] + "c"})
	}
	for period := 1; period < 6; period++ {
		s := strings.Repeat("abcAB"[:period], 20)
		for n := range 14 {
			all = append(all, pair{s, s[:n]}, pair{s, s[1 : n+1]}, pair{s + s[1:], s[:n] + s[1:3]})
		}
	}
	return all
}

func TestExamples(t *testing.T) { // the chapter's examples
	if got := locate.Find("ababa", "aba", false); !slices.Equal(got, []int{0, 2}) {
		t.Errorf("aba occurs at %v", got)
	}
	if got := locate.Count("ababa", "aba", false); got != 1 {
		t.Errorf("the count of aba is %d", got)
	}
	if got := locate.Find("aB", "b", true); !slices.Equal(got, []int{1}) {
		t.Errorf("b occurs at %v", got)
	}
	if got := locate.Codes("abca"); !slices.Equal(got, []int{6382179, 6447969}) {
		t.Errorf("the codes of abca are %v", got)
	}
	l := []api.Gram{{Code: 6382179, At: []int{0, 5}}, {Code: 6447969, At: []int{1}}}
	for _, x := range []struct {
		lit  string
		want []int
		ok   bool
	}{{"abca", []int{0}, true}, {"aBC", []int{0, 5}, true}, {"ab", nil, false}} {
		if got, ok := locate.Candidates(l, x.lit); !slices.Equal(got, x.want) || ok != x.ok {
			t.Errorf("the candidates of %q are %v, %v", x.lit, got, ok)
		}
	}
	if got := locate.Count("aaaa", "", false); got != 5 {
		t.Errorf("the count of the empty string is %d", got)
	}
}

func TestFindNamed(t *testing.T) { // P7.1, P7.5
	for _, x := range []struct {
		s, lit string
		exact  []int // without fold
		folded []int
		count  int // with fold
	}{
		{"", "", []int{0}, []int{0}, 1},
		{"a", "", []int{0, 1}, []int{0, 1}, 2},
		{"\xff\x00\n", "", []int{0, 1, 2, 3}, []int{0, 1, 2, 3}, 4},
		{"", "a", nil, nil, 0},
		{"", "abc", nil, nil, 0},
		{"abc", "abc", []int{0}, []int{0}, 1}, // as long as s
		{"abc", "aBc", nil, []int{0}, 1},
		{"abc", "abd", nil, nil, 0},
		{"abc", "abcd", nil, nil, 0}, // one byte longer
		{"abc", "abca", nil, nil, 0},
		{"aaa", "aaaa", nil, nil, 0},
		{"abc", "ab", []int{0}, []int{0}, 1}, // one byte shorter
		{"abc", "bc", []int{1}, []int{1}, 1},
		{"abc", "BC", nil, []int{1}, 1},
		{"aaa", "aa", []int{0, 1}, []int{0, 1}, 1},
		{"abcab", "ab", []int{0, 3}, []int{0, 3}, 2}, // at the beginning and at the end
		{"xaby", "ab", []int{1}, []int{1}, 1},
		{"ababab", "ab", []int{0, 2, 4}, []int{0, 2, 4}, 3}, // side by side
		{"abaab", "bb", nil, nil, 0},
		{"aabaabaaab", "aaab", []int{6}, []int{6}, 1},
		{"abaabab", "abab", []int{3}, []int{3}, 1}, // behind a beginning of it that it overlaps
		{"aabaaabaaac", "aabaaac", []int{4}, []int{4}, 1},
		{"aAaA", "aA", []int{0, 2}, []int{0, 1, 2}, 2},
		{"AB ab Ab aB", "ab", []int{3}, []int{0, 3, 6, 9}, 4},
		{"AB ab Ab aB", "AB", []int{0}, []int{0, 3, 6, 9}, 4},
		{"@[`{", "@", []int{0}, []int{0}, 1}, // 32 more or less is another byte, but no letter
		{"@[`{", "[", []int{1}, []int{1}, 1},
		{"@[`{", "`", []int{2}, []int{2}, 1},
		{"@[`{", "{", []int{3}, []int{3}, 1},
		{"aAzZ", "a", []int{0}, []int{0, 1}, 2},
		{"aAzZ", "Z", []int{3}, []int{2, 3}, 2},
		{"\x00\x20\x00", "\x00", []int{0, 2}, []int{0, 2}, 2},
		{"\x7f\x5f\xff\xdf\x80\xa0", "\xff", []int{2}, []int{2}, 1},
		{"\x7f\x5f\xff\xdf\x80\xa0", "\xdf", []int{3}, []int{3}, 1},
		{"\x7f\x5f\xff\xdf\x80\xa0", "\x7f", []int{0}, []int{0}, 1},
		{"\x7f\x5f\xff\xdf\x80\xa0", "\x80", []int{4}, []int{4}, 1},
		{"\xff\xff\xff", "\xff\xff", []int{0, 1}, []int{0, 1}, 1},
		{"\u00e9\u00c9", "\u00c9", []int{2}, []int{2}, 1}, // letters, but not from A to Z
		{"\u00e9\u00c9", "\xc3", []int{0, 2}, []int{0, 2}, 2},
		{"\u00e9\u00c9", "\xa9", []int{1}, []int{1}, 1},
		{"k\u212aK", "k", []int{0}, []int{0, 4}, 2}, // the sign of Kelvin is no K
		{"\u0130i\u0131I", "i", []int{2}, []int{2, 5}, 2},
		{"\ufffd\xff", "\xff", []int{3}, []int{3}, 1},
		{"\ufffd\xff", "\ufffd", []int{0}, []int{0}, 1},
		{"a\nb\n", "\n", []int{1, 3}, []int{1, 3}, 2},
		{"a\nB\n", "\nb", nil, []int{1}, 1},
	} {
		if got := locate.Find(x.s, x.lit, false); !slices.Equal(got, x.exact) {
			t.Errorf("Find(%q, %q, false) is %v, not %v", x.s, x.lit, got, x.exact)
		}
		if got := locate.Find(x.s, x.lit, true); !slices.Equal(got, x.folded) {
			t.Errorf("Find(%q, %q, true) is %v, not %v", x.s, x.lit, got, x.folded)
		}
		if got := locate.Count(x.s, x.lit, true); got != x.count {
			t.Errorf("Count(%q, %q, true) is %d, not %d", x.s, x.lit, got, x.count)
		}
	}
}

func TestFind(t *testing.T) { // P7.1
	for _, x := range pairs() {
		for _, fold := range []bool{false, true} {
			if got, want := locate.Find(x.s, x.lit, fold), findOf(x.s, x.lit, fold); !slices.Equal(got, want) {
				t.Fatalf("Find(%q, %q, %v) is %v, not %v", x.s, x.lit, fold, got, want)
			}
		}
	}
}

// TestFindEachByte checks all pairs of bytes.
func TestFindEachByte(t *testing.T) { // P7.1
	all := allBytes()
	for i := range 256 {
		lit := all[i : i+1]
		for _, fold := range []bool{false, true} {
			want := findOf(all, lit, fold)
			if letter := strings.Contains(upper+lower, lit); fold && letter != (len(want) == 2) || !fold && len(want) != 1 {
				t.Fatalf("%q occurs at %v", lit, want)
			}
			if got := locate.Find(all, lit, fold); !slices.Equal(got, want) {
				t.Errorf("%q occurs at %v, not at %v (%v)", lit, got, want, fold)
			}
			if got := locate.Count(all, lit, fold); got != len(want) {
				t.Errorf("%q occurs %d times, not %d (%v)", lit, got, len(want), fold)
			}
		}
	}
}

func TestCodesNamed(t *testing.T) { // P7.2
	for _, x := range []struct {
		lit  string
		want []int
	}{
		{"", nil},
		{"a", nil},
		{"ab", nil},
		{"\u00e9", nil},
		{"\xff\xff", nil},
		{"abc", []int{abc}},
		{"ABC", []int{abc}},
		{"aBc", []int{abc}},
		{"abca", []int{abc, bca}},
		{"bcab", []int{bca, cab}},
		{"cabc", []int{abc, cab}}, // abc is less than cab
		{"abcab", []int{abc, bca, cab}},
		{"abcABC", []int{abc, bca, cab}},
		{"aaa", []int{aaa}},
		{"aaaa", []int{aaa}},
		{"aAaA", []int{aaa}},
		{"\x00\x00\x00", []int{0}},
		{"\xff\xff\xff\xff", []int{16777215}},
		{"@[`{", []int{4217696, 5988475}},
		{"Z{\x7f\x80", []int{8027007, 8093568}},
		{"\u20ac", []int{14844588}},
		{"\xff\x00\xff\x00", []int{65280, 16711935}},
	} {
		if got := locate.Codes(x.lit); !slices.Equal(got, x.want) {
			t.Errorf("Codes(%q) is %v, not %v", x.lit, got, x.want)
		}
	}
}

// literals are strings of no, one, two, three, four and more bytes, with trigrams that are all equal, all different, and mixed.
func literals() []string {
	all := append(short(4, edges), short(6, "abA")...)
	every := allBytes()
	all = append(all, every, every+every, upper+lower, strings.Repeat("aA", 20), strings.Repeat("\xff", 20), strings.Repeat("abc", 10), fibonacci(6))
	for seed := range 40 {
		all = append(all, mixed(2*seed, edges, seed), mixed(3*seed, "abAB", seed), mixed(5*seed, every, seed))
	}
	return all
}

func TestCodes(t *testing.T) { // P7.2
	for _, lit := range literals() {
		got, want := locate.Codes(lit), codesOf(lit)
		if !slices.Equal(got, want) {
			t.Fatalf("Codes(%q) is %v, not %v", lit, got, want)
		}
		if len(lit) < 3 && len(got) > 0 || len(lit) >= 3 && len(got) == 0 {
			t.Fatalf("%q has %d codes", lit, len(got))
		}
	}
}

func TestPossibleNamed(t *testing.T) { // P7.3
	for _, x := range []struct {
		codes []int
		lit   string
		want  bool
	}{
		{nil, "", true},
		{nil, "a", true},
		{nil, "ab", true},
		{nil, "abc", false},
		{[]int{}, "abc", false},
		{nil, "abca", false},
		{[]int{7}, "ab", true},
		{[]int{abc}, "abc", true},
		{[]int{abc}, "ABC", true},
		{[]int{bca}, "abc", false},
		{[]int{upperABC}, "ABC", false},
		{[]int{abc + 1<<24}, "abc", false},
		{[]int{abc + 1<<32}, "abc", false},
		{[]int{-abc}, "abc", false},
		{[]int{abc - 1, abc + 1}, "abc", false},
		{[]int{math.MinInt, abc, math.MaxInt}, "abc", true},
		{[]int{abc}, "abca", false},
		{[]int{bca}, "abca", false},
		{[]int{bca, abc}, "abca", true},
		{[]int{abc, bca}, "abca", true},
		{[]int{bca, bca, 5, abc, abc, bca}, "aBcA", true},
		{[]int{bca, bca}, "abca", false}, // as many codes, but not all
		{[]int{abc, bca}, "abcab", false},
		{[]int{bca, cab}, "abcab", false},
		{[]int{cab, abc}, "abcab", false},
		{[]int{cab, abc, bca}, "abcab", true},
		{[]int{aaa}, "aaaaaaa", true},
		{[]int{aaa, aaa}, "aaaab", false},
		{[]int{0}, "\x00\x00\x00\x00", true},
		{nil, "\x00\x00\x00", false},
		{[]int{16777215}, "\xff\xff\xff", true},
		{[]int{-1}, "\xff\xff\xff", false},
	} {
		if got := locate.Possible(x.codes, x.lit); got != x.want {
			t.Errorf("Possible(%v, %q) is %v", x.codes, x.lit, got)
		}
	}
}

// TestPossibleWithoutOne checks lists that lack no code, each code alone, and all of them.
func TestPossibleWithoutOne(t *testing.T) { // P7.3
	for _, lit := range literals() {
		codes := codesOf(lit)
		reversed := slices.Clone(codes)
		slices.Reverse(reversed)
		more := slices.Concat(reversed, []int{-1, 1 << 24}, codes, reversed)
		for _, l := range [][]int{codes, reversed, more} {
			if !locate.Possible(l, lit) {
				t.Fatalf("%q is not possible with %v", lit, l)
			}
		}
		if got := locate.Possible(nil, lit); got != (len(lit) < 3) {
			t.Fatalf("whether %q is possible without codes is %v", lit, got)
		}
		for _, code := range codes {
			without := slices.DeleteFunc(slices.Clone(more), func(other int) bool { return other == code })
			if locate.Possible(without, lit) {
				t.Fatalf("%q is possible without %d", lit, code)
			}
		}
	}
}

func TestPossible(t *testing.T) { // P7.3
	some := []int{aaa, abc, bca, cab, -1, 0}
	var lists [][]int
	lists = append(lists, nil)
	from := 0
	for range 4 {
		to := len(lists)
		for _, l := range lists[from:to] {
			for _, code := range some {
				lists = append(lists, append(slices.Clone(l), code))
			}
		}
		from = to
	}
	for _, l := range lists {
		for _, lit := range []string{"", "a", "ab", "aaa", "abc", "aaaa", "abca", "Abcab", "cabc", "abcabcabc", "aaabc", "\x00\x00\x00"} {
			if got, want := locate.Possible(l, lit), possibleOf(l, lit); got != want {
				t.Fatalf("Possible(%v, %q) is %v", l, lit, got)
			}
		}
	}
}

func TestCandidatesNamed(t *testing.T) { // P7.4
	for _, x := range []struct {
		l    []api.Gram
		lit  string
		want []int
		ok   bool
	}{
		{nil, "", nil, false},
		{nil, "ab", nil, false},
		{nil, "abc", nil, true},
		{nil, "abca", nil, true},
		{[]api.Gram{}, "abc", nil, true},
		{[]api.Gram{{}}, "abc", nil, true},
		{[]api.Gram{{At: []int{1}}}, "\x00\x00\x00", []int{1}, true},
		{[]api.Gram{{At: []int{1}}}, "\x00\x00", nil, false},
		{[]api.Gram{{Code: abc, At: []int{0}}}, "", nil, false},
		{[]api.Gram{{Code: abc, At: []int{0}}}, "a", nil, false},
		{[]api.Gram{{Code: abc, At: []int{0}}}, "bc", nil, false},
		{[]api.Gram{{Code: abc, At: []int{0}}}, "abc", []int{0}, true},
		{[]api.Gram{{Code: abc, At: []int{0}}}, "ABC", []int{0}, true},
		{[]api.Gram{{Code: upperABC, At: []int{0}}}, "ABC", nil, true},
		{[]api.Gram{{Code: abc + 1<<24, At: []int{0}}}, "abc", nil, true},
		{[]api.Gram{{Code: abc}}, "abc", nil, true},
		{[]api.Gram{{Code: abc, At: []int{5, -1, 0, 5, math.MaxInt, math.MinInt, 0, 3}}}, "abc", []int{0, 3, 5, math.MaxInt}, true},
		{[]api.Gram{{Code: abc, At: []int{-2, -1}}}, "abc", nil, true},
		// Of several elements with a code, the first one counts.
		{[]api.Gram{{Code: abc, At: []int{4}}, {Code: abc, At: []int{6}}}, "abc", []int{4}, true},
		{[]api.Gram{{Code: abc}, {Code: abc, At: []int{6}}}, "abc", nil, true},
		{[]api.Gram{{Code: bca, At: []int{7}}, {Code: abc, At: []int{4, 6}}, {Code: bca, At: []int{5}}}, "abca", []int{6}, true},
		{[]api.Gram{{Code: bca}, {Code: abc, At: []int{4, 6}}, {Code: bca, At: []int{5}}}, "abca", nil, true},
		// In no order, with other elements.
		{[]api.Gram{{Code: cab, At: []int{2, 9}}, {Code: -1, At: []int{1}}, {Code: abc, At: []int{7, 0}}, {Code: math.MaxInt, At: []int{8}}, {Code: bca, At: []int{8, 1}}, {Code: math.MinInt}}, "abcab", []int{0, 7}, true},
		{[]api.Gram{{Code: abc, At: []int{0, 7}}, {Code: bca, At: []int{1, 8}}, {Code: cab, At: []int{2, 3, 8, 10}}}, "abcab", []int{0}, true},
		{[]api.Gram{{Code: abc, At: []int{0, 3}}, {Code: bca, At: []int{1}}, {Code: cab, At: []int{2}}}, "abcabc", []int{0}, true},
		{[]api.Gram{{Code: abc, At: []int{0}}, {Code: bca, At: []int{1}}, {Code: cab, At: []int{2}}}, "abcabc", nil, true}, // abc again 3 further on
		{[]api.Gram{{Code: abc, At: []int{0, 3}}, {Code: bca, At: []int{1, 4}}}, "abcab", nil, true},                       // without cab
		// The same trigram at several offsets of lit.
		{[]api.Gram{{Code: aaa, At: []int{0, 1, 2}}}, "aaa", []int{0, 1, 2}, true},
		{[]api.Gram{{Code: aaa, At: []int{2, 0, 1, 0}}}, "aaaa", []int{0, 1}, true},
		{[]api.Gram{{Code: aaa, At: []int{0, 1, 2}}}, "aAaAa", []int{0}, true},
		{[]api.Gram{{Code: aaa, At: []int{0, 1, 2}}}, "aaaaaa", nil, true},
		{[]api.Gram{{Code: aaa, At: []int{0, 2, 3, 5, 6, 7}}}, "aaaa", []int{2, 5, 6}, true},
		// Several trigrams at one offset, as no string has them.
		{[]api.Gram{{Code: abc, At: []int{0, 1, 2}}, {Code: bca, At: []int{0, 1, 2}}}, "abca", []int{0, 1}, true},
		// Numbers so great or so small that a sum or a difference would not fit.
		{[]api.Gram{{Code: abc, At: []int{math.MaxInt}}, {Code: bca, At: []int{math.MinInt}}}, "abca", nil, true},
		{[]api.Gram{{Code: abc, At: []int{math.MaxInt}}, {Code: bca, At: []int{math.MinInt, math.MaxInt}}}, "abca", nil, true},
		{[]api.Gram{{Code: abc, At: []int{math.MaxInt, math.MaxInt - 1}}, {Code: bca, At: []int{math.MaxInt, math.MinInt}}}, "abca", []int{math.MaxInt - 1}, true},
		{[]api.Gram{{Code: abc, At: []int{math.MaxInt - 1}}, {Code: bca, At: []int{math.MaxInt}}, {Code: cab, At: []int{math.MinInt}}}, "abcab", nil, true},
		{[]api.Gram{{Code: abc, At: []int{math.MinInt, -1}}, {Code: bca, At: []int{math.MinInt + 1, 0}}}, "abca", nil, true}, // at negative offsets
		{[]api.Gram{{Code: abc, At: []int{-1, 0}}, {Code: bca, At: []int{0, 1}}}, "abca", []int{0}, true},
		{[]api.Gram{{Code: aaa, At: []int{math.MinInt, math.MinInt + 1, -1, 0, 1, math.MaxInt - 1, math.MaxInt}}}, "aaaa", []int{0, math.MaxInt - 1}, true},
		{[]api.Gram{{Code: abc, At: []int{1 << 32, 7}}, {Code: bca, At: []int{1, 8}}}, "abca", []int{7}, true},
	} {
		if got, ok := locate.Candidates(x.l, x.lit); !slices.Equal(got, x.want) || ok != x.ok {
			t.Errorf("Candidates(%v, %q) is %v, %v, not %v, %v", x.l, x.lit, got, ok, x.want, x.ok)
		}
	}
}

// TestOtherDistances checks trigrams at every distance but the right one.
func TestOtherDistances(t *testing.T) { // P7.4, P7.6
	for _, x := range []struct {
		lit      string
		distance int // of its last trigram from its first one
	}{{"abcd", 1}, {"abcde", 2}, {"abcdef", 3}, {"abcdefghi", 6}} {
		last := codeOf(x.lit, x.distance)
		l := trigram.Grams(strings.Repeat(".", 20) + x.lit)
		at := slices.IndexFunc(l, func(gram api.Gram) bool { return gram.Code == last })
		l[at].At = nil
		for off := -50; off <= 100; off++ {
			if off != 20+x.distance {
				l[at].At = append(l[at].At, off)
			}
		}
		if got, ok := locate.Candidates(l, x.lit); len(got) != 0 || !ok {
			t.Errorf("the candidates of %q are %v, %v", x.lit, got, ok)
		}
		l[at].At = append(l[at].At, 20+x.distance)
		if got, ok := locate.Candidates(l, x.lit); !slices.Equal(got, []int{20}) || !ok {
			t.Errorf("with it, the candidates of %q are %v, %v", x.lit, got, ok)
		}
	}
	s := ""
	for n := range 20 {
		between := strings.Repeat(".", n)
		s += "abc" + between + "bcd.." + "BCD" + between + "ABC-"
	}
	if got, ok := locate.Candidates(trigram.Grams(s), "abcd"); len(got) != 0 || !ok || !locate.Possible(trigram.Of(s), "abcd") {
		t.Errorf("the candidates of abcd are %v, %v", got, ok)
	}
}

// anyLists returns all lists of at most two elements of a few codes and offsets, and many longer ones.
func anyLists() [][]api.Gram {
	var elements []api.Gram
	for _, code := range []int{aaa, abc, bca, upperABC, -1} {
		for _, at := range [][]int{nil, {0}, {1, 2}, {2, 0, 2}, {-1, 1, 0}, {3, math.MaxInt, math.MaxInt - 1}, {math.MinInt, math.MaxInt, 1, 4}} {
			elements = append(elements, api.Gram{Code: code, At: at})
		}
	}
	lists := [][]api.Gram{nil}
	from := 0
	for range 2 {
		to := len(lists)
		for _, l := range lists[from:to] {
			for _, e := range elements {
				lists = append(lists, append(slices.Clone(l), e))
			}
		}
		from = to
	}
	next := mixer(1)
	for range 5000 {
		var l []api.Gram
		for range 1 + next(6) {
			gram := api.Gram{Code: []int{aaa, abc, bca, cab}[next(4)]}
			for range next(9) {
				gram.At = append(gram.At, next(9)-1)
			}
			l = append(l, gram)
		}
		lists = append(lists, l)
	}
	return lists
}

func TestCandidates(t *testing.T) { // P7.4
	lits := []string{"", "a", "ab", "aaa", "abc", "ABC", "bca", "aaaa", "abca", "aBcA", "bcab", "aaaaa", "abcab", "abcabc", "aaabc", "\xff\xff\xff"}
	for _, l := range anyLists() {
		for _, lit := range lits {
			got, ok := locate.Candidates(l, lit)
			if want, wantOk := candidatesOf(l, lit); !slices.Equal(got, want) || ok != wantOk {
				t.Fatalf("Candidates(%v, %q) is %v, %v, not %v, %v", l, lit, got, ok, want, wantOk)
			}
		}
	}
}

func TestCountNamed(t *testing.T) { // P7.5
	for _, x := range []struct {
		s, lit string
		fold   bool
		want   int
	}{
		{"", "", false, 1},
		{"", "", true, 1},
		{"a", "", false, 2},
		{"aaaa", "", false, 5},
		{"\xff\x80\u00e9", "", true, 5}, // bytes, not characters
		{"", "a", false, 0},
		{"abc", "abcd", false, 0},
		{"abc", "abc", false, 1},
		{"abc", "ABC", false, 0},
		{"abc", "ABC", true, 1},
		{"aaaa", "a", false, 4},
		{"aaaa", "aa", false, 2},
		{"aaaaa", "aa", false, 2},
		{"aaaaaa", "aaa", false, 2},
		{"aAaAa", "AA", true, 2},
		{"aAaAa", "Aa", false, 2},
		{"ababa", "aba", false, 1}, // the leftmost occurrence overlaps the other one
		{"abababa", "aba", false, 2},
		{"ababababa", "aba", false, 2},
		{"abaaba", "aba", false, 2}, // one begins where the other one ends
		{"ababaaba", "aba", false, 2},
		{"aabaabaa", "aabaa", false, 1},
		{"aabaabaabaa", "aabaa", false, 2},
		{"aBAbabA", "ABA", true, 2},
		{"xaxxax", "ax", false, 2},
		{"abcabd", "abd", false, 1},
	} {
		if got := locate.Count(x.s, x.lit, x.fold); got != x.want {
			t.Errorf("Count(%q, %q, %v) is %d, not %d", x.s, x.lit, x.fold, got, x.want)
		}
	}
}

func TestCount(t *testing.T) { // P7.5
	for _, s := range append(short(7, "ab"), short(5, "aAb")...) {
		for _, lit := range short(3, "aAb") {
			for _, fold := range []bool{false, true} {
				if got, want := locate.Count(s, lit, fold), countOf(s, lit, fold); got != want {
					t.Fatalf("Count(%q, %q, %v) is %d, not %d", s, lit, fold, got, want)
				}
			}
		}
	}
	for _, x := range pairs() {
		for _, fold := range []bool{false, true} {
			if got, want := locate.Count(x.s, x.lit, fold), mostApart(x.s, x.lit, fold); got != want {
				t.Fatalf("Count(%q, %q, %v) is %d, not %d", x.s, x.lit, fold, got, want)
			}
		}
	}
}

func TestCandidatesOccur(t *testing.T) { // P7.6
	for _, x := range pairs() {
		got, ok := locate.Candidates(trigram.Grams(x.s), x.lit)
		if ok != (len(x.lit) >= 3) || !ok && len(got) != 0 {
			t.Fatalf("the candidates of %q in %q are %v, %v", x.lit, x.s, got, ok)
		}
		if ok && (!slices.Equal(got, findOf(x.s, x.lit, true)) || !slices.Equal(got, locate.Find(x.s, x.lit, true))) {
			t.Fatalf("the candidates of %q in %q are %v", x.lit, x.s, got)
		}
	}
}

func TestOccursAndPossible(t *testing.T) { // P7.7
	times := map[bool]int{}
	for _, x := range pairs() {
		occurs := len(locate.Find(x.s, x.lit, true)) > 0
		possible := locate.Possible(trigram.Of(x.s), x.lit)
		if occurs && !possible {
			t.Fatalf("%q occurs in %q and is not possible", x.lit, x.s)
		}
		for _, code := range locate.Codes(x.lit) {
			if occurs && !slices.Contains(trigram.Of(x.s), code) {
				t.Fatalf("%q occurs in %q, but %d does not", x.lit, x.s, code)
			}
		}
		times[possible]++
	}
	if times[false] == 0 || times[true] == 0 {
		t.Errorf("how often they are possible: %v", times)
	}
}

func TestFoldedBoth(t *testing.T) { // P7.8
	for _, x := range pairs() {
		want := locate.Find(text.Fold(x.s), text.Fold(x.lit), false)
		for _, s := range []string{x.s, raised(x.s)} {
			for _, lit := range []string{x.lit, raised(x.lit)} {
				if got := locate.Find(s, lit, true); !slices.Equal(got, want) {
					t.Fatalf("Find(%q, %q, true) is %v, but for both folded %v", s, lit, got, want)
				}
			}
		}
	}
}

func TestFromTheLeft(t *testing.T) { // P7.8
	for _, x := range pairs() {
		for _, fold := range []bool{false, true} {
			count, end := 0, 0
			for _, off := range locate.Find(x.s, x.lit, fold) {
				if off >= end {
					count, end = count+1, off+len(x.lit)
				}
			}
			if got := locate.Count(x.s, x.lit, fold); got != count {
				t.Fatalf("Count(%q, %q, %v) is %d, not %d", x.s, x.lit, fold, got, count)
			}
		}
	}
}

// spoil changes all of the memory that belongs to a list.
func spoil(l []int) {
	l = l[:cap(l)]
	for i := range l {
		l[i] ^= 1 << 40
	}
}

// TestResultsAreNew checks that no call sees what happens to the results of another one.
func TestResultsAreNew(t *testing.T) { // P7.1, P7.2; LANGUAGE.md, rule 7
	for _, x := range []pair{{"", ""}, {"abcab", ""}, {"aaaaaa", "aa"}, {"abcABCabc", "aBc"}, {edges + edges, edges}, {mixed(300, "abAB", 1), "ab"}} {
		for range 3 {
			for _, fold := range []bool{false, true} {
				got := locate.Find(x.s, x.lit, fold)
				if want := findOf(x.s, x.lit, fold); !slices.Equal(got, want) {
					t.Fatalf("Find(%q, %q, %v) is then %v", x.s, x.lit, fold, got)
				}
				spoil(got)
			}
			codes := locate.Codes(x.s)
			if !slices.Equal(codes, codesOf(x.s)) {
				t.Fatalf("Codes(%q) is then %v", x.s, codes)
			}
			spoil(codes)
		}
	}
}

// TestCodesStay checks that Possible leaves the codes and what is behind their end as they are.
func TestCodesStay(t *testing.T) { // P7.3; LANGUAGE.md, rule 7
	whole := []int{cab, abc, -1, abc, cab, bca, 5}
	was := slices.Clone(whole)
	for range 2 {
		for n := range whole {
			if got, want := locate.Possible(whole[:n], "abcab"), possibleOf(whole[:n], "abcab"); got != want {
				t.Errorf("Possible(%v) is %v", whole[:n], got)
			}
		}
	}
	if !slices.Equal(whole, was) {
		t.Errorf("the codes are then %v", whole)
	}
}

// cloned returns a copy of l that shares no memory with it, with two numbers behind the end of each list of offsets.
func cloned(l []api.Gram) []api.Gram {
	l = slices.Clone(l)
	for i, gram := range l {
		at := append(slices.Clone(gram.At), 77, -7)
		l[i].At = at[:len(gram.At)]
	}
	return l
}

// sameGrams reports whether two lists from cloned are equal, also behind the end of their offsets.
func sameGrams(a, b []api.Gram) bool {
	return slices.EqualFunc(a, b, func(x, y api.Gram) bool {
		return x.Code == y.Code && len(x.At) == len(y.At) && slices.Equal(x.At[:len(x.At)+2], y.At[:len(y.At)+2])
	})
}

// TestListsStay checks that Candidates leaves its list as it is, does not look behind its end, and returns no memory of it.
func TestListsStay(t *testing.T) { // P7.4; LANGUAGE.md, rule 7
	for _, l := range anyLists() {
		whole := cloned(append(slices.Clone(l), api.Gram{Code: abc, At: []int{6}}, api.Gram{Code: bca, At: []int{7}}))
		was := cloned(whole)
		given := whole[:len(l)]
		for _, lit := range []string{"ab", "abc", "aaaa", "abca"} {
			want, _ := candidatesOf(l, lit)
			got, _ := locate.Candidates(given, lit)
			again, _ := locate.Candidates(given, lit)
			spoil(got)
			if !sameGrams(whole, was) {
				t.Fatalf("after Candidates(%v, %q) and a change of the result the list is %v", l, lit, whole)
			}
			for _, gram := range given {
				spoil(gram.At)
			}
			if !slices.Equal(again, want) {
				t.Fatalf("after changes, Candidates(%v, %q) is %v, not %v", l, lit, again, want)
			}
			for _, gram := range given {
				spoil(gram.At)
			}
		}
	}
}

// TestLarge checks strings and lists that are so long that time for each pair of their elements would be too long.
func TestLarge(t *testing.T) { // P7.1, P7.3, P7.4, P7.5
	const n = 1000000
	equal := strings.Repeat("aA", n/2)
	for _, x := range []struct {
		s, lit      string
		fold        bool
		found       int
		first, last int
		count       int
	}{
		{equal, "", false, n + 1, 0, n, n + 1},
		{equal, "a", true, n, 0, n - 1, n},
		{equal, equal[:n/2], false, n/4 + 1, 0, n / 2, 2},
		{equal, equal[:n/2], true, n/2 + 1, 0, n / 2, 2},
		{equal, equal[:n/2] + "b", true, 0, 0, 0, 0},
		{equal, "b" + equal[:n/2], true, 0, 0, 0, 0},
		{equal + "b", equal[:n/2] + "b", true, 1, n / 2, n / 2, 1},
		{equal + "b" + equal, equal[1:] + "b" + equal[:n/2], true, 1, 1, 1, 1},
	} {
		got := locate.Find(x.s, x.lit, x.fold)
		if len(got) != x.found || x.found > 0 && (got[0] != x.first || got[x.found-1] != x.last) {
			t.Errorf("%d of %d bytes occur %d times", len(x.lit), len(x.s), len(got))
		}
		if got := locate.Count(x.s, x.lit, x.fold); got != x.count {
			t.Errorf("the count of %d of %d bytes is %d", len(x.lit), len(x.s), got)
		}
	}
	s := mixed(n/5, allBytes(), 3)
	codes := trigram.Of(s)
	slices.Reverse(codes)
	if !locate.Possible(codes, s) || locate.Possible(codes[1:], s) || locate.Possible(codes[:len(codes)-1], s) {
		t.Error("Possible for a long string")
	}
	grams := trigram.Grams(s)
	slices.Reverse(grams)
	for _, at := range []int{0, 1234, len(s) - 60} {
		if got, ok := locate.Candidates(grams, s[at:at+60]); !slices.Equal(got, []int{at}) || !ok {
			t.Errorf("the candidates of 60 bytes are %v, %v", got, ok)
		}
	}
	grams = trigram.Grams(equal)
	slices.Reverse(grams[0].At)
	if got, ok := locate.Candidates(grams, equal[:100]); len(got) != n-99 || got[0] != 0 || got[n-100] != n-100 || !ok {
		t.Errorf("100 bytes have %d candidates", len(got))
	}
}
