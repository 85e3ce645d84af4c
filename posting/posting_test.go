package posting_test

import (
	"bytes"
	"math"
	"slices"
	"testing"

	"codesearch/api"
	"codesearch/posting"
)

// in reports whether n is an element of l.
func in(l []int, n int) bool {
	for _, m := range l {
		if m == n {
			return true
		}
	}
	return false
}

// sorted follows the words 'in increasing order, each once': it returns the elements of all lists, the least one first.
func sorted(lists ...[]int) []int {
	var l []int
	for {
		least, found := 0, false
		for _, other := range lists {
			for _, n := range other {
				if (len(l) == 0 || n > l[len(l)-1]) && (!found || n < least) {
					least, found = n, true
				}
			}
		}
		if !found {
			return l
		}
		l = append(l, least)
	}
}

// those returns the elements of l for which keep holds.
func those(l []int, keep func(n int) bool) []int {
	var kept []int
	for _, n := range l {
		if keep(n) {
			kept = append(kept, n)
		}
	}
	return kept
}

// and, or and minus follow P5.2, atLeast P5.3.
func and(a, b []int) []int {
	return those(sorted(a, b), func(n int) bool { return in(a, n) && in(b, n) })
}

func or(a, b []int) []int { return sorted(a, b) }

func minus(a, b []int) []int {
	return those(sorted(a), func(n int) bool { return !in(b, n) })
}

func atLeast(k int, lists [][]int) []int {
	return those(sorted(lists...), func(n int) bool {
		count := 0
		for _, l := range lists {
			if in(l, n) {
				count++
			}
		}
		return count >= max(k, 1)
	})
}

// valid follows the definition of a valid list.
func valid(l []int) bool {
	for i, n := range l {
		if n < 0 || n > 9999 || i > 0 && n <= l[i-1] {
			return false
		}
	}
	return true
}

// digits follows the definition of the encoding of a number.
func digits(n int) []byte {
	if n < 128 {
		return []byte{byte(n)}
	}
	return append([]byte{byte(n%128) + 128}, digits(n/128)...)
}

// listOf follows the definition of the encoding of a list in chapter 3.
func listOf(l []int) []byte {
	b := digits(len(l))
	for i, n := range l {
		if i > 0 {
			n -= l[i-1]
		}
		b = append(b, digits(n)...)
	}
	return b
}

// encoding follows the definition of the encoding.
func encoding(l []int) []byte {
	head, lists := digits(len(l)), []byte(nil)
	for at := 0; at < len(l); at += 16 {
		block := l[at:min(at+16, len(l))]
		head = append(head, digits(block[len(block)-1])...)
		head = append(head, digits(len(listOf(block)))...)
		lists = append(lists, listOf(block)...)
	}
	return append(head, lists...)
}

// numbers returns the numbers of which b consists, and whether it consists of numbers in as few bytes as possible, none greater than 2^62.
func numbers(b []byte) ([]int, bool) {
	var l []int
	for len(b) > 0 {
		size := 1
		for size <= len(b) && b[size-1] >= 128 {
			size++
		}
		if size > len(b) || size > 9 || size > 1 && b[size-1] == 0 {
			return nil, false
		}
		n := 0
		for i, digit := range b[:size] {
			n |= int(digit&127) << (7 * i)
		}
		if n > 1<<62 {
			return nil, false
		}
		l, b = append(l, n), b[size:]
	}
	return l, true
}

// unpacked follows P5.6: it returns the valid list whose encoding is b, and whether there is one. It examines the numbers of b one by one, as the definition of the encoding says.
func unpacked(b []byte) ([]int, bool) {
	all, ok := numbers(b)
	if !ok || len(all) == 0 || all[0] > len(all) {
		return nil, false
	}
	count := all[0]
	blocks := (count + 15) / 16
	if len(all) != 1+2*blocks+blocks+count {
		return nil, false
	}
	heads, rest := all[1:1+2*blocks], all[1+2*blocks:]
	var l []int
	for i := range blocks {
		size := min(16, count-16*i)
		if rest[0] != size {
			return nil, false
		}
		block := []int{rest[1]}
		for _, step := range rest[2 : 1+size] {
			block = append(block, block[len(block)-1]+step)
		}
		if block[size-1] != heads[2*i] || len(listOf(block)) != heads[2*i+1] {
			return nil, false
		}
		l, rest = append(l, block...), rest[1+size:]
	}
	return l, valid(l)
}

// sought follows P5.7 and P5.10.
func sought(l []int, n int) (int, bool) {
	for _, m := range l {
		if m >= n {
			return m, true
		}
	}
	return 0, false
}

// stepped returns n elements, from first on, each one step after the one before.
func stepped(first, n, step int) []int {
	var l []int
	for i := range n {
		l = append(l, first+i*step)
	}
	return l
}

// mixed returns n numbers from -limit to limit in no order, others for another seed.
func mixed(n, limit, seed int) []int {
	var l []int
	state := uint32(seed)*2654435761 + 12345
	for range n {
		state = state*1664525 + 1013904223
		l = append(l, int(state>>16)%(2*limit+1)-limit)
	}
	return l
}

// shortLists returns all lists of at most n elements from those given.
func shortLists(n int, elements ...int) [][]int {
	list := [][]int{nil}
	from := 0
	for range n {
		to := len(list)
		for _, l := range list[from:to] {
			for _, e := range elements {
				list = append(list, append(slices.Clone(l), e))
			}
		}
		from = to
	}
	return list
}

// validLists are valid lists of all kinds: short and long ones, with elements and differences of one and two bytes, and with the numbers of elements at which blocks end.
func validLists() [][]int {
	lists := [][]int{nil, {}, {0}, {1}, {126}, {127}, {128}, {129}, {255}, {300}, {9998}, {9999}, {0, 9999}, {9998, 9999}, {5, 300}, {0, 1}, {0, 127}, {0, 128}, {0, 127, 255, 9999}, stepped(0, 10000, 1), stepped(1, 9999, 1), stepped(0, 5000, 2)}
	for _, n := range []int{2, 3, 14, 15, 16, 17, 18, 31, 32, 33, 34, 47, 48, 49, 64, 65} {
		lists = append(lists, stepped(0, n, 1), stepped(120, n, 1), stepped(10000-n, n, 1), stepped(3, n, 7), stepped(0, n, 127), stepped(1, n, 128), stepped(9999-(n-1)*150, n, 150))
	}
	for seed := range 20 {
		lists = append(lists, those(sorted(mixed(3*seed+1, 9999, seed)), func(n int) bool { return n >= 0 }))
	}
	return lists
}

// otherLists are lists that are not valid, each with the place at which it is not.
func otherLists() [][]int {
	lists := [][]int{{-1}, {10000}, {math.MinInt}, {math.MaxInt}, {-1, 0}, {-2, -1}, {9999, 10000}, {0, 10000}, {10000, 10001}, {0, 0}, {1, 1}, {9999, 9999}, {1, 0}, {9999, 0}, {2, 1, 3}, {1, 3, 2}, {1, 2, 2}, {1, 1, 2}, {0, 1, 2, 1}, {math.MinInt, math.MaxInt}, {math.MaxInt, math.MinInt}, {0, math.MinInt}, {5, 3, 3}, {1 << 32}, {1<<32 + 1, 1<<32 + 2}, stepped(0, 10001, 1), stepped(-1, 10001, 1), stepped(40, 41, -1)}
	for _, n := range []int{15, 16, 17, 32, 33} {
		for at := range n {
			twice, lower := stepped(100, n, 2), stepped(100, n, 2)
			if at > 0 {
				twice[at] = twice[at-1]
				lower[at] = lower[at-1] - 1
			} else {
				twice[0], lower[0] = -1, math.MinInt
			}
			lists = append(lists, twice, lower)
		}
		great := stepped(100, n, 2)
		great[n-1] = 10000
		lists = append(lists, great, append(stepped(0, n, 1), n-1), append(stepped(0, n, 1), 0))
	}
	return lists
}

// setLists are lists for the operations of sets, valid ones and others.
func setLists() [][]int {
	lists := append(shortLists(3, -1, 0, 2, 5), []int{1, 3, 5}, []int{5, 3, 3}, []int{9999, 10000}, []int{math.MaxInt, 0, math.MinInt}, []int{math.MinInt, math.MinInt + 1}, []int{math.MaxInt - 1, math.MaxInt})
	for i, l := range append(validLists(), otherLists()...) {
		if len(l) < 20 && i%3 == 0 {
			lists = append(lists, l)
		}
	}
	for seed := range 25 {
		lists = append(lists, mixed(seed, 1+seed/2, seed))
	}
	return lists
}

// spare returns a copy of l with numbers behind its end that belong to its capacity, and a function that reports whether the list and these numbers are still the same.
func spare(l []int) ([]int, func() bool) {
	whole := append(slices.Clone(l), 7777, -7, 3, 0)
	was := slices.Clone(whole)
	return whole[:len(l)], func() bool { return slices.Equal(whole, was) }
}

// overwrite changes all of the memory that belongs to a result.
func overwrite(l []int) {
	l = l[:cap(l)]
	for i := range l {
		l[i] ^= 1 << 40
	}
}

func TestValidNamed(t *testing.T) { // P5.1
	for _, x := range []struct {
		l    []int
		want bool
	}{
		{nil, true},
		{[]int{}, true},
		{[]int{0}, true},
		{[]int{1}, true},
		{[]int{9998}, true},
		{[]int{9999}, true},
		{[]int{10000}, false},
		{[]int{-1}, false},
		{[]int{math.MinInt}, false},
		{[]int{math.MaxInt}, false},
		{[]int{0, 9999}, true},
		{[]int{0, 10000}, false},
		{[]int{-1, 9999}, false},
		{[]int{1, 2, 3}, true},
		{[]int{1, 1}, false},
		{[]int{0, 0}, false},
		{[]int{9999, 9999}, false},
		{[]int{1, 2, 2}, false},
		{[]int{2, 1}, false},
		{[]int{1, 3, 2}, false},
		{[]int{1, 3, 2, 4}, false},
		{[]int{5, 1, 6}, false},
		{stepped(0, 10000, 1), true},
		{stepped(0, 10001, 1), false},
	} {
		if got := posting.Valid(x.l); got != x.want {
			t.Errorf("Valid(%.20v) is %v", x.l, got)
		}
	}
}

func TestValid(t *testing.T) { // P5.1
	for _, l := range shortLists(4, -1, 0, 1, 2, 9998, 9999, 10000) {
		if got, want := posting.Valid(l), valid(l); got != want {
			t.Fatalf("Valid(%v) is %v", l, got)
		}
	}
	for _, l := range validLists() {
		if !posting.Valid(l) {
			t.Errorf("Valid(%.40v) is false", l)
		}
	}
	for _, l := range otherLists() {
		if posting.Valid(l) {
			t.Errorf("Valid(%.40v) is true", l)
		}
	}
}

func TestSetsNamed(t *testing.T) { // P5.2
	for _, x := range []struct{ a, b, and, or, minus []int }{
		{nil, nil, nil, nil, nil},
		{nil, []int{}, nil, nil, nil},
		{[]int{1}, nil, nil, []int{1}, []int{1}},
		{nil, []int{1}, nil, []int{1}, nil},
		{nil, []int{2, 1, 2}, nil, []int{1, 2}, nil},
		{[]int{2, 1, 2}, nil, nil, []int{1, 2}, []int{1, 2}},
		{[]int{1, 3, 5}, []int{5, 3, 3}, []int{3, 5}, []int{1, 3, 5}, []int{1}},
		{[]int{5, 3, 3}, []int{1, 3, 5}, []int{3, 5}, []int{1, 3, 5}, nil},
		{[]int{1, 2, 3}, []int{1, 2, 3}, []int{1, 2, 3}, []int{1, 2, 3}, nil},
		{[]int{3, 3, 1}, []int{3, 3, 1}, []int{1, 3}, []int{1, 3}, nil},
		{[]int{1, 3, 5}, []int{0, 2, 4, 6}, nil, []int{0, 1, 2, 3, 4, 5, 6}, []int{1, 3, 5}},
		{[]int{0, 2, 4, 6}, []int{1, 3, 5}, nil, []int{0, 1, 2, 3, 4, 5, 6}, []int{0, 2, 4, 6}},
		{[]int{1, 2}, []int{3, 4}, nil, []int{1, 2, 3, 4}, []int{1, 2}},
		{[]int{3, 4}, []int{1, 2}, nil, []int{1, 2, 3, 4}, []int{3, 4}},
		{[]int{0, 9999}, []int{0}, []int{0}, []int{0, 9999}, []int{9999}},
		{[]int{0, 9999}, []int{9999}, []int{9999}, []int{0, 9999}, []int{0}},
		{[]int{9999, 10000, -1}, []int{10000, -1, -2}, []int{-1, 10000}, []int{-2, -1, 9999, 10000}, []int{9999}},
		{[]int{math.MaxInt, math.MinInt}, []int{math.MinInt, 0}, []int{math.MinInt}, []int{math.MinInt, 0, math.MaxInt}, []int{math.MaxInt}},
		{[]int{0, 0, 0}, []int{0}, []int{0}, []int{0}, nil},
		{[]int{4, 4, -1}, []int{4}, []int{4}, []int{-1, 4}, []int{-1}},
	} {
		if got := posting.And(x.a, x.b); !slices.Equal(got, x.and) {
			t.Errorf("And(%v, %v) is %v, not %v", x.a, x.b, got, x.and)
		}
		if got := posting.Or(x.a, x.b); !slices.Equal(got, x.or) {
			t.Errorf("Or(%v, %v) is %v, not %v", x.a, x.b, got, x.or)
		}
		if got := posting.Minus(x.a, x.b); !slices.Equal(got, x.minus) {
			t.Errorf("Minus(%v, %v) is %v, not %v", x.a, x.b, got, x.minus)
		}
	}
}

func TestSets(t *testing.T) { // P5.2, P5.8
	lists := setLists()
	for _, a := range lists {
		for _, b := range lists {
			both, either, rest := posting.And(a, b), posting.Or(a, b), posting.Minus(a, b)
			if !slices.Equal(both, and(a, b)) || !slices.Equal(either, or(a, b)) || !slices.Equal(rest, minus(a, b)) {
				t.Fatalf("And, Or and Minus of %v and %v are %v, %v and %v", a, b, both, either, rest)
			}
			if again := posting.Minus(a, rest); !slices.Equal(again, both) {
				t.Fatalf("Minus(%v, Minus(it, %v)) is %v, not %v", a, b, again, both)
			}
		}
	}
}

// TestSetsOfValid checks that the operations of valid lists give valid lists, with blocks of all sizes.
func TestSetsOfValid(t *testing.T) { // P5.2, P5.8
	var lists [][]int
	for i, l := range validLists() {
		if len(l) < 100 && i%2 == 0 {
			lists = append(lists, l)
		}
	}
	for _, a := range lists {
		for _, b := range lists {
			both, either, rest := posting.And(a, b), posting.Or(a, b), posting.Minus(a, b)
			if !slices.Equal(both, and(a, b)) || !slices.Equal(either, or(a, b)) || !slices.Equal(rest, minus(a, b)) {
				t.Fatalf("And, Or and Minus of %v and %v are %v, %v and %v", a, b, both, either, rest)
			}
			if !posting.Valid(both) || !posting.Valid(either) || !posting.Valid(rest) {
				t.Fatalf("of %v and %v: %v, %v or %v is not valid", a, b, both, either, rest)
			}
		}
	}
}

func TestAtLeastNamed(t *testing.T) { // P5.3
	example := [][]int{{1, 2}, {2, 2}, {1}}
	four := [][]int{{5, 1, 5}, {1, 9}, {-3, 1, 9}, {9, 9, 9, 1}}
	for _, x := range []struct {
		k     int
		lists [][]int
		want  []int
	}{
		{2, example, []int{1, 2}},
		{1, example, []int{1, 2}},
		{3, example, nil},
		{4, example, nil},
		{0, nil, nil},
		{1, nil, nil},
		{2, nil, nil},
		{-1, nil, nil},
		{0, [][]int{}, nil},
		{0, [][]int{nil}, nil},
		{1, [][]int{nil, {}}, nil},
		{2, [][]int{nil, {}}, nil},
		{math.MinInt, [][]int{{3, 1, 3}}, []int{1, 3}},
		{-1, [][]int{{3, 1, 3}}, []int{1, 3}},
		{0, [][]int{{3, 1, 3}}, []int{1, 3}},
		{1, [][]int{{3, 1, 3}}, []int{1, 3}},
		{2, [][]int{{3, 1, 3}}, nil},
		{3, [][]int{{3, 3, 3}}, nil},
		{math.MaxInt, [][]int{{3, 1, 3}}, nil},
		{2, [][]int{{3, 3, 3}, {1}}, nil},
		{2, [][]int{{3, 3, 3}, {3}}, []int{3}},
		{math.MinInt, four, []int{-3, 1, 5, 9}},
		{-1, four, []int{-3, 1, 5, 9}},
		{0, four, []int{-3, 1, 5, 9}},
		{1, four, []int{-3, 1, 5, 9}},
		{2, four, []int{1, 9}},
		{3, four, []int{1, 9}},
		{4, four, []int{1}},
		{5, four, nil},
		{math.MaxInt, four, nil},
		{2, [][]int{{math.MaxInt, math.MinInt}, nil, {math.MinInt, math.MaxInt, 0}}, []int{math.MinInt, math.MaxInt}},
		{2, [][]int{{10000, -1}, {-1, 10000}}, []int{-1, 10000}},
	} {
		if got := posting.AtLeast(x.k, x.lists...); !slices.Equal(got, x.want) {
			t.Errorf("AtLeast(%d, %v) is %v, not %v", x.k, x.lists, got, x.want)
		}
	}
	if got := posting.AtLeast(2, []int{1, 2}, []int{2, 2}, []int{1}); !slices.Equal(got, []int{1, 2}) {
		t.Errorf("AtLeast is %v", got)
	}
}

func TestAtLeast(t *testing.T) { // P5.3
	check := func(lists ...[]int) {
		t.Helper()
		for _, k := range []int{math.MinInt, -1, 0, 1, 2, 3, len(lists) - 1, len(lists), len(lists) + 1, math.MaxInt} {
			if got, want := posting.AtLeast(k, lists...), atLeast(k, lists); !slices.Equal(got, want) {
				t.Fatalf("AtLeast(%d, %v) is %v, not %v", k, lists, got, want)
			}
		}
	}
	check()
	short := shortLists(2, -1, 0, 2)
	for _, a := range short {
		check(a)
		for _, b := range short {
			check(a, b)
			for _, c := range short {
				check(a, b, c)
			}
		}
	}
	for n := range 20 {
		var lists [][]int
		for i := range n {
			lists = append(lists, mixed(3+i, 6, 20*n+i))
		}
		check(lists...)
	}
}

// TestAtLeastIsAndOr checks AtLeast against the operations of two sets.
func TestAtLeastIsAndOr(t *testing.T) { // P5.2, P5.3
	for _, a := range setLists() {
		for _, b := range setLists()[:40] {
			if got, want := posting.AtLeast(2, a, b), posting.And(a, b); !slices.Equal(got, want) {
				t.Fatalf("AtLeast(2, %v, %v) is %v, not %v", a, b, got, want)
			}
			if got, want := posting.AtLeast(1, a, b), posting.Or(a, b); !slices.Equal(got, want) {
				t.Fatalf("AtLeast(1, %v, %v) is %v, not %v", a, b, got, want)
			}
		}
	}
}

func TestHasNamed(t *testing.T) { // P5.4
	for _, x := range []struct {
		l    []int
		n    int
		want bool
	}{
		{nil, 0, false},
		{[]int{}, -1, false},
		{[]int{0}, 0, true},
		{[]int{0}, 1, false},
		{[]int{0}, -1, false},
		{[]int{9999}, 9999, true},
		{[]int{9999}, 9998, false},
		{[]int{9999}, 10000, false},
		{[]int{1, 4}, 4, true},
		{[]int{1, 4}, 1, true},
		{[]int{1, 4}, 2, false},
		{[]int{1, 4}, 0, false},
		{[]int{1, 4}, 5, false},
		{[]int{1, 4}, math.MinInt, false},
		{[]int{1, 4}, math.MaxInt, false},
		// lists that are not valid
		{[]int{4, 1}, 4, false},
		{[]int{4, 1}, 1, false},
		{[]int{1, 1}, 1, false},
		{[]int{1, 2, 2}, 1, false},
		{[]int{-1, 2}, 2, false},
		{[]int{-1, 2}, -1, false},
		{[]int{2, 10000}, 2, false},
		{[]int{2, 10000}, 10000, false},
		{[]int{math.MaxInt}, math.MaxInt, false},
		{[]int{1, 3, 2, 4}, 4, false},
	} {
		if got := posting.Has(x.l, x.n); got != x.want {
			t.Errorf("Has(%v, %d) is %v", x.l, x.n, got)
		}
	}
}

func TestHas(t *testing.T) { // P5.4
	for _, l := range append(validLists(), otherLists()...) {
		if len(l) > 100 {
			continue
		}
		ns := []int{math.MinInt, -2, -1, 0, 1, 9998, 9999, 10000, math.MaxInt}
		for _, n := range l {
			ns = append(ns, n-1, n, n+1)
		}
		for _, n := range ns {
			if got, want := posting.Has(l, n), valid(l) && in(l, n); got != want {
				t.Fatalf("Has(%v, %d) is %v", l, n, got)
			}
		}
	}
	all := stepped(0, 10000, 1)
	for n := -2; n <= 10001; n++ {
		if got, want := posting.Has(all, n), n >= 0 && n <= 9999; got != want {
			t.Fatalf("Has(0 to 9999, %d) is %v", n, got)
		}
	}
}

func TestPackNamed(t *testing.T) { // P5.5
	join := func(parts ...[]byte) []byte { return bytes.Join(parts, nil) }
	ones := func(n int) []byte { return bytes.Repeat([]byte{1}, n) }
	for _, x := range []struct {
		l    []int
		want []byte
	}{
		{nil, []byte{0}},
		{[]int{}, []byte{0}},
		{[]int{0}, []byte{1, 0, 2, 1, 0}},
		{[]int{1}, []byte{1, 1, 2, 1, 1}},
		{[]int{127}, []byte{1, 127, 2, 1, 127}},
		{[]int{128}, []byte{1, 128, 1, 3, 1, 128, 1}},
		{[]int{9999}, []byte{1, 143, 78, 3, 1, 143, 78}},
		{[]int{0, 9999}, []byte{2, 143, 78, 4, 2, 0, 143, 78}},
		{[]int{5, 300}, []byte{2, 172, 2, 4, 2, 5, 167, 2}},
		{stepped(0, 15, 1), join([]byte{15, 14, 16, 15, 0}, ones(14))},
		{stepped(0, 16, 1), join([]byte{16, 15, 17, 16, 0}, ones(15))},
		{stepped(0, 17, 1), join([]byte{17, 15, 17, 16, 2, 16, 0}, ones(15), []byte{1, 16})},
		{stepped(0, 32, 1), join([]byte{32, 15, 17, 31, 17, 16, 0}, ones(15), []byte{16, 16}, ones(15))},
		{stepped(0, 33, 1), join([]byte{33, 15, 17, 31, 17, 32, 2, 16, 0}, ones(15), []byte{16, 16}, ones(15), []byte{1, 32})},
		{stepped(112, 17, 1), join([]byte{17, 127, 17, 128, 1, 3, 16, 112}, ones(15), []byte{1, 128, 1})},
	} {
		if got, err := posting.Pack(x.l); !bytes.Equal(got, x.want) || err != api.OK {
			t.Errorf("Pack(%v) is %v, %d, not %v", x.l, got, err, x.want)
		}
		if got, err := posting.Unpack(x.want); !slices.Equal(got, x.l) || err != api.OK {
			t.Errorf("Unpack(%v) is %v, %d, not %v", x.want, got, err, x.l)
		}
	}
}

func TestPack(t *testing.T) { // P5.5, P5.9
	lists := validLists()
	for n := range 10000 {
		lists = append(lists, []int{n})
	}
	for n := range 300 {
		lists = append(lists, stepped(0, n, 1), stepped(n, n, 3), stepped(9999-40*n, n, 40))
	}
	for _, l := range lists {
		if !valid(l) {
			continue // the longest ones of the last kind
		}
		b, err := posting.Pack(l)
		if !bytes.Equal(b, encoding(l)) || err != api.OK {
			t.Fatalf("Pack(%.40v) is %.40v, %d", l, b, err)
		}
		again, err := posting.Unpack(b)
		if !slices.Equal(again, l) || err != api.OK {
			t.Fatalf("Unpack of Pack(%.40v) is %.40v, %d", l, again, err)
		}
	}
}

func TestPackOfOthers(t *testing.T) { // P5.5
	for _, l := range append(otherLists(), shortLists(4, -1, 0, 1, 9999, 10000)...) {
		b, err := posting.Pack(l)
		if valid(l) {
			if !bytes.Equal(b, encoding(l)) || err != api.OK {
				t.Fatalf("Pack(%v) is %v, %d", l, b, err)
			}
			continue
		}
		if len(b) != 0 || err != api.ErrArg {
			t.Fatalf("Pack(%.40v) is %.40v, %d", l, b, err)
		}
	}
}

// checkBytes compares Unpack and Seek with what the chapter says of the bytes b, and returns whether they are an encoding.
func checkBytes(t *testing.T, b []byte) bool {
	t.Helper()
	want, ok := unpacked(b)
	got, err := posting.Unpack(b)
	if !ok {
		if len(got) != 0 || err != api.ErrForm {
			t.Fatalf("Unpack(%.60v) is %.40v, %d", b, got, err)
		}
		for _, n := range []int{math.MinInt, 0, 9999} {
			if m, found := posting.Seek(b, n); m != 0 || found {
				t.Fatalf("Seek(%.60v, %d) is %d, %v", b, n, m, found)
			}
		}
		return false
	}
	if !slices.Equal(got, want) || err != api.OK {
		t.Fatalf("Unpack(%.60v) is %.40v, %d, not %.40v", b, got, err, want)
	}
	if !bytes.Equal(encoding(want), b) {
		t.Fatalf("the test takes %v for the encoding of %v", b, want)
	}
	if m, found := posting.Seek(b, math.MinInt); found != (len(want) > 0) || found && m != want[0] {
		t.Fatalf("the least element of %.40v is %d, %v", want, m, found)
	}
	return true
}

// checkNone checks that b is no encoding.
func checkNone(t *testing.T, b []byte) {
	t.Helper()
	if checkBytes(t, b) {
		t.Fatalf("the test takes %.60v for an encoding", b)
	}
}

func TestUnpackNamed(t *testing.T) { // P5.6, P5.7
	block := []byte{16, 0, 1, 1, 1, 1, 1, 1, 1, 1, 1, 1, 1, 1, 1, 1, 1} // 0 to 15
	for _, b := range [][]byte{
		nil,
		{},
		{1},
		{128},
		{255, 255},
		{0, 0}, // bytes behind an encoding
		{0, 1},
		{0, 128},
		{1, 5, 2, 1, 5, 0},
		{1, 5, 2, 1, 5, 1, 5},
		{1, 5, 2, 1, 5, 1, 5, 2, 1, 5},
		{1, 5, 2, 1}, // too few
		{1, 5, 2},
		{1, 5},
		{2, 172, 2, 4, 2, 5, 167},
		{0, 5, 2, 1, 5}, // the number of elements
		{2, 5, 2, 1, 5},
		{16, 5, 2, 1, 5},
		{17, 5, 2, 1, 5},
		{3, 6, 3, 2, 5, 1},
		{1, 6, 3, 2, 5, 1},
		{1, 6, 2, 1, 5}, // the last element
		{1, 4, 2, 1, 5},
		{1, 133, 1, 2, 1, 5},
		{1, 5, 3, 1, 5}, // the number of bytes
		{1, 5, 1, 1, 5},
		{1, 5, 0, 1, 5},
		{1, 5, 2, 0, 5}, // the number of elements of a block
		{1, 5, 2, 2, 5},
		{1, 5, 2, 2, 4, 1},
		{1, 5, 3, 2, 4, 1},
		{1, 5, 1, 0},
		{1, 0, 1, 0},
		{0, 0, 1, 0},
		{128, 0}, // numbers in more bytes than they need
		{129, 0, 5, 2, 1, 5},
		{1, 133, 0, 2, 1, 5},
		{1, 5, 130, 0, 1, 5},
		{1, 5, 2, 129, 0, 5},
		{1, 5, 3, 129, 0, 5},
		{1, 5, 2, 1, 133, 0},
		{1, 5, 3, 1, 133, 0},
		{1, 144, 78, 3, 1, 144, 78}, // the element 10000
		{1, 128, 128, 1, 4, 1, 128, 128, 1},
		{2, 144, 78, 4, 2, 0, 144, 78},
		{2, 144, 78, 4, 2, 143, 78, 1},
		{2, 5, 3, 2, 5, 0}, // an element twice
		{2, 0, 3, 2, 0, 0},
	} {
		checkNone(t, b)
	}
	for _, x := range [][2][]byte{ // two blocks: what is before the first list, and what is behind it
		{{16, 15, 17, 15, 2}, {1, 15}},       // 16 elements
		{{18, 15, 17, 16, 2}, {1, 16}},       // 18 elements
		{{33, 15, 17, 16, 2}, {1, 16}},       // three blocks
		{{17, 15, 17, 15, 2}, {1, 15}},       // an element in both
		{{17, 15, 17, 14, 2}, {1, 14}},       // not in order
		{{17, 15, 17, 0, 2}, {1, 0}},         // not in order
		{{17, 16, 17, 16, 2}, {1, 16}},       // another last element
		{{17, 14, 17, 16, 2}, {1, 16}},       // another last element
		{{17, 15, 17, 17, 2}, {1, 16}},       // another last element
		{{17, 15, 16, 16, 2}, {1, 16}},       // other numbers of bytes
		{{17, 15, 18, 16, 1}, {1, 16}},       // the same
		{{17, 15, 17, 16, 3}, {1, 16}},       // the same
		{{17, 15, 17}, {1, 16}},              // nothing of the second block before the lists
		{{17, 15, 17, 16, 2}, nil},           // no second list
		{{17, 15, 17, 16, 2}, {0}},           // an empty one
		{{17, 15, 17, 16, 2}, {2, 16, 1}},    // a longer one
		{{17, 15, 17, 17, 3}, {2, 16, 1}},    // the same
		{{16, 15, 17, 15, 1}, {0}},           // an empty block at the end
		{{17, 15, 17, 16, 2}, {1, 16, 0}},    // more bytes
		{{32, 15, 17, 16, 2}, {1, 16}},       // 32 elements
		{{145, 0, 15, 17, 16, 2}, {1, 16}},   // the number 17 in two bytes
		{{17, 15, 17, 144, 78, 3}, {144, 1}}, // an end within a number
	} {
		checkNone(t, bytes.Join([][]byte{x[0], block, x[1]}, nil))
	}
	if b := bytes.Join([][]byte{{17, 15, 17, 16, 2}, block, {1, 16}}, nil); !checkBytes(t, b) {
		t.Errorf("%v is no encoding", b)
	}
}

// divided returns how the elements of l would be encoded in blocks of the given sizes.
func divided(l []int, sizes ...int) []byte {
	head, lists := digits(len(l)), []byte(nil)
	for _, size := range sizes {
		block := listOf(l[:size])
		head = append(head, digits(l[size-1])...)
		head = append(head, digits(len(block))...)
		lists = append(lists, block...)
		l = l[size:]
	}
	return append(head, lists...)
}

// TestOtherBlocks checks that elements in blocks of other sizes are not accepted.
func TestOtherBlocks(t *testing.T) { // P5.6, P5.7, P5.9
	for n := 1; n <= 50; n++ {
		for _, l := range [][]int{stepped(0, n, 1), stepped(100, n, 130)} {
			if got, want := checkBytes(t, divided(l, slices.Repeat([]int{1}, n)...)), n == 1; got != want {
				t.Fatalf("of %d elements in a block each: %v", n, got)
			}
			for first := 1; first <= n; first++ {
				sizes := []int{first}
				for left := n - first; left > 0; left -= 16 {
					sizes = append(sizes, min(left, 16))
				}
				if got, want := checkBytes(t, divided(l, sizes...)), first == min(n, 16); got != want {
					t.Fatalf("of %d elements with %d in the first block: %v", n, first, got)
				}
			}
			if n >= 2 && n%16 != 1 {
				sizes := slices.Repeat([]int{16}, n/16)
				if n%16 > 0 {
					sizes = append(sizes, n%16-1)
				} else {
					sizes[len(sizes)-1]--
				}
				checkNone(t, divided(l, append(sizes, 1)...))
			}
			if n == 17 || n == 33 {
				sizes := slices.Repeat([]int{16}, n/16)
				sizes[len(sizes)-1]++
				checkNone(t, divided(l, sizes...))
			}
		}
	}
}

// TestOtherElements checks that blocks of elements that are no valid list are not accepted.
func TestOtherElements(t *testing.T) { // P5.6, P5.7
	for _, l := range otherLists() {
		fits := true // whether each block by itself can be encoded
		for at, n := range l {
			if n < 0 || n > 1<<62 || at%16 > 0 && n <= l[at-1] {
				fits = false
			}
		}
		if fits {
			checkNone(t, encoding(l))
		}
	}
	for _, n := range []int{10000, 16383, 16384, 1 << 32, 1<<32 + 5, 1<<62 - 1, 1 << 62} {
		checkNone(t, encoding([]int{n}))
		checkNone(t, encoding([]int{0, n}))
		checkNone(t, encoding(append(stepped(0, 16, 1), n)))
		checkNone(t, encoding(append(stepped(0, 15, 1), n)))
		checkNone(t, encoding(append(append(stepped(0, 15, 1), n), 16)))
	}
	checkNone(t, encoding([]int{1 << 61, 1 << 62}))
}

// TestUnpackShortBytes compares Unpack and Seek with what the chapter says for all short byte strings of a few values.
func TestUnpackShortBytes(t *testing.T) { // P5.6, P5.7
	for first := range 256 {
		checkBytes(t, []byte{byte(first)})
		for second := range 256 {
			checkNone(t, []byte{byte(first), byte(second)})
		}
	}
	count := 0
	list := [][]byte{nil}
	for size := range 8 {
		var longer [][]byte
		for _, b := range list {
			if checkBytes(t, b) {
				count++
			}
			if size == 7 {
				continue
			}
			for _, c := range []byte{0, 1, 2, 3, 4, 128} {
				longer = append(longer, append(slices.Clone(b), c))
			}
		}
		list = longer
	}
	// the empty list; one element from 0 to 4, or 128, 256, 384 or 512; two or three from 0 to 4
	if want := 1 + 5 + 4 + 10 + 10; count != want {
		t.Errorf("there are %d encodings, not %d", count, want)
	}
}

// TestCutOff ends encodings at each place, with and without bytes behind the end.
func TestCutOff(t *testing.T) { // P5.6, P5.7
	for _, l := range validLists() {
		whole := encoding(l)
		step := 1 + len(whole)/100
		for end := 0; end < len(whole); end += step {
			checkNone(t, slices.Clip(slices.Clone(whole[:end])))
			checkNone(t, whole[:end])
		}
		checkNone(t, whole[:len(whole)-1])
	}
}

func TestBytesBehind(t *testing.T) { // P5.6, P5.7
	for _, l := range validLists() {
		whole := slices.Clip(encoding(l))
		for c := range 256 {
			if len(l) < 20 || c%51 == 0 {
				checkNone(t, append(whole, byte(c)))
			}
		}
		for _, behind := range [][]byte{{0, 0}, {1, 5}, {128, 128}, encoding(nil), encoding([]int{9999}), encoding(stepped(0, 16, 1)), bytes.Repeat([]byte{200}, 20), whole} {
			checkNone(t, append(whole, behind...))
			checkNone(t, append(slices.Clip(slices.Clone(behind)), whole...))
		}
	}
}

// TestDamaged changes each byte of encodings, leaves each byte out, and doubles each. No change of one byte makes another encoding of them.
func TestDamaged(t *testing.T) { // P5.6, P5.7, P5.9
	for _, l := range validLists() {
		if len(l) > 70 {
			continue
		}
		whole := encoding(l)
		for at, was := range whole {
			for mask := 1; mask < 256; mask++ {
				single := mask&(mask-1) == 0
				if len(l) < 4 || len(l) == 17 && l[16] < 130 || single || mask == 255 {
					checkNone(t, slices.Replace(slices.Clone(whole), at, at+1, was^byte(mask)))
				}
			}
			checkBytes(t, slices.Delete(slices.Clone(whole), at, at+1))
			checkBytes(t, slices.Insert(slices.Clone(whole), at, was))
		}
	}
}

// TestOtherNumbers replaces each number of encodings by others.
func TestOtherNumbers(t *testing.T) { // P5.6, P5.7, P5.9
	for _, l := range [][]int{nil, {0}, {5}, {9999}, {5, 300}, stepped(0, 15, 1), stepped(0, 16, 1), stepped(0, 17, 1), stepped(120, 33, 130)} {
		all, _ := numbers(encoding(l))
		for at, was := range all {
			for _, n := range []int{0, 1, 2, 15, 16, 17, 32, 33, was - 1, was + 1, was + 16, was + 128, 9999, 10000, 10001, 1 << 16, 1 << 31, 1 << 32, 1<<32 + was, 1 << 58, 1<<62 - 1, 1 << 62} {
				if n < 0 || n == was {
					continue
				}
				var b []byte
				for i, m := range all {
					if i == at {
						m = n
					}
					b = append(b, digits(m)...)
				}
				checkNone(t, b)
			}
			for _, long := range [][]byte{{byte(was%128) + 128, 128 + byte(was/128), 0}, {128, 128, 128, 128, 128, 128, 128, 128, 128, 1}, {129, 128, 128, 128, 128, 128, 128, 128, 64}} {
				var b []byte
				for i, m := range all {
					if i == at {
						b = append(b, long...)
						continue
					}
					b = append(b, digits(m)...)
				}
				checkNone(t, b)
			}
		}
	}
}

// TestHugeCounts checks that numbers of elements that cannot fit cost neither time nor memory.
func TestHugeCounts(t *testing.T) { // P5.6, P5.7
	many := bytes.Repeat([]byte{1}, 1000000)
	for _, n := range []int{10000, 10001, 1 << 20, 1 << 31, 1 << 32, 1<<61 + 1, 1<<62 - 16, 1<<62 - 15, 1<<62 - 1, 1 << 62} {
		count := digits(n)
		checkNone(t, count)
		checkNone(t, append(slices.Clip(count), 0))
		checkNone(t, append(slices.Clip(count), encoding(stepped(0, 40, 1))...))
		b := append(slices.Clip(count), many...)
		if l, err := posting.Unpack(b); len(l) != 0 || err != api.ErrForm {
			t.Errorf("Unpack with the count %d is %.40v, %d", n, l, err)
		}
		if m, found := posting.Seek(b, 0); m != 0 || found {
			t.Errorf("Seek with the count %d is %d, %v", n, m, found)
		}
	}
	for _, b := range [][]byte{many, bytes.Repeat([]byte{128}, 1000000), make([]byte, 1000000), bytes.Repeat([]byte{255}, 1000000)} {
		if l, err := posting.Unpack(b); len(l) != 0 || err != api.ErrForm {
			t.Errorf("Unpack(%.10v ..) is %.40v, %d", b, l, err)
		}
	}
	// as many blocks as the count says, with more elements than there may be
	for _, n := range []int{10001, 20000} {
		checkNone(t, encoding(stepped(0, n, 1)))
	}
}

func TestSeekNamed(t *testing.T) { // P5.7
	two := []byte{2, 172, 2, 4, 2, 5, 167, 2} // 5 and 300
	seventeen := encoding(stepped(0, 17, 1))
	gap := encoding(append(stepped(10, 16, 2), 100)) // 10, 12 .. 40; 100
	for _, x := range []struct {
		b     []byte
		n     int
		want  int
		found bool
	}{
		{two, math.MinInt, 5, true},
		{two, -1, 5, true},
		{two, 0, 5, true},
		{two, 4, 5, true},
		{two, 5, 5, true},
		{two, 6, 300, true},
		{two, 299, 300, true},
		{two, 300, 300, true},
		{two, 301, 0, false},
		{two, 9999, 0, false},
		{two, 10000, 0, false},
		{two, math.MaxInt, 0, false},
		{[]byte{0}, math.MinInt, 0, false},
		{[]byte{0}, 0, 0, false},
		{[]byte{0}, math.MaxInt, 0, false},
		{[]byte{1, 0, 2, 1, 0}, math.MinInt, 0, true},
		{[]byte{1, 0, 2, 1, 0}, -1, 0, true},
		{[]byte{1, 0, 2, 1, 0}, 0, 0, true},
		{[]byte{1, 0, 2, 1, 0}, 1, 0, false},
		{[]byte{1, 143, 78, 3, 1, 143, 78}, 9998, 9999, true},
		{[]byte{1, 143, 78, 3, 1, 143, 78}, 9999, 9999, true},
		{[]byte{1, 143, 78, 3, 1, 143, 78}, 10000, 0, false},
		{seventeen, -1, 0, true},
		{seventeen, 15, 15, true},
		{seventeen, 16, 16, true},
		{seventeen, 17, 0, false},
		{gap, 9, 10, true},
		{gap, 11, 12, true},
		{gap, 39, 40, true},
		{gap, 40, 40, true},
		{gap, 41, 100, true},
		{gap, 99, 100, true},
		{gap, 100, 100, true},
		{gap, 101, 0, false},
		// no encodings
		{nil, 0, 0, false},
		{[]byte{1}, 0, 0, false},
		{[]byte{1, 5}, 0, 0, false},
		{two[:7], 5, 0, false},
		{append(slices.Clip(two), 0), 5, 0, false},
		{[]byte{2, 172, 2, 4, 2, 5, 166, 2}, 5, 0, false},
		{seventeen[:len(seventeen)-1], 3, 0, false}, // the block with the element is whole
		{append(slices.Clone(seventeen[:len(seventeen)-1]), 17), 3, 0, false},
	} {
		if got, found := posting.Seek(x.b, x.n); got != x.want || found != x.found {
			t.Errorf("Seek(%v, %d) is %d, %v, not %d, %v", x.b, x.n, got, found, x.want, x.found)
		}
	}
}

func TestSeek(t *testing.T) { // P5.7, P5.10
	for _, l := range validLists() {
		b := encoding(l)
		ns := []int{math.MinInt, math.MinInt + 1, -10000, -1, 0, 1, 9998, 9999, 10000, math.MaxInt - 1, math.MaxInt}
		for i, m := range l {
			if len(l) < 100 || i%997 == 0 {
				ns = append(ns, m-1, m, m+1, m+5)
			}
		}
		for _, n := range ns {
			got, found := posting.Seek(b, n)
			want, wantFound := sought(l, n)
			if got != want || found != wantFound {
				t.Fatalf("Seek of %.40v for %d is %d, %v, not %d, %v", l, n, got, found, want, wantFound)
			}
			if found && (!in(l, got) || got < n) {
				t.Fatalf("Seek of %.40v for %d is %d", l, n, got)
			}
		}
	}
}

// TestListsStay checks that lists stay as they are, that what lies behind their ends does not matter, and that results share no memory with them or with each other.
func TestListsStay(t *testing.T) { // P5.1 to P5.5, P5.8
	lists := append(shortLists(2, 0, 3, 1), []int{5, 3, 3}, []int{-1, 10000}, stepped(0, 17, 1), stepped(40, 33, -1))
	for _, l := range lists {
		for _, other := range lists {
			a, aStays := spare(l)
			b, bStays := spare(other)
			posting.Valid(a)
			posting.Has(a, 3)
			posting.Pack(a)
			results := [][]int{posting.And(a, b), posting.Or(a, b), posting.Minus(a, b), posting.AtLeast(1, a, b), posting.AtLeast(2, a, b), posting.AtLeast(1, a)}
			want := [][]int{and(l, other), or(l, other), minus(l, other), or(l, other), and(l, other), sorted(l)}
			for i, got := range results {
				if !slices.Equal(got, want[i]) {
					t.Fatalf("result %d of %v and %v is %v", i, l, other, got)
				}
				overwrite(got)
				if !aStays() || !bStays() {
					t.Fatalf("the lists %v and %v do not stay after result %d", l, other, i)
				}
			}
			if got := posting.Or(a, b); !slices.Equal(got, want[1]) {
				t.Fatalf("Or(%v, %v) is then %v", l, other, got)
			}
		}
		same, stays := spare(l)
		overwrite(posting.And(same, same))
		overwrite(posting.Or(same, same))
		overwrite(posting.AtLeast(2, same, same))
		if !stays() {
			t.Fatalf("the list %v does not stay", l)
		}
	}
}

// TestSlicesOfLists checks that the lists of AtLeast themselves stay in their order.
func TestSlicesOfLists(t *testing.T) { // P5.3
	whole := [][]int{{3, 1}, {2}, {1, 1}, {9}}
	lists := whole[:3]
	if got := posting.AtLeast(1, lists...); !slices.Equal(got, []int{1, 2, 3}) {
		t.Errorf("AtLeast is %v", got)
	}
	for i, want := range [][]int{{3, 1}, {2}, {1, 1}, {9}} {
		if !slices.Equal(whole[i], want) {
			t.Errorf("list %d became %v", i, whole[i])
		}
	}
}

// TestBytesStay checks that bytes stay as they are, that what lies behind their ends does not matter, and that results share no memory with arguments or with each other.
func TestBytesStay(t *testing.T) { // P5.5 to P5.7
	for _, l := range validLists() {
		list, stays := spare(l)
		first, err := posting.Pack(list)
		second, _ := posting.Pack(list)
		for i := range first {
			first[i] ^= 255
		}
		if !stays() || !bytes.Equal(second, encoding(l)) || err != api.OK {
			t.Fatalf("Pack(%.40v) is %.40v, %d", l, second, err)
		}
		whole := append(slices.Clone(second), 1, 5, 2, 1, 5)
		was := slices.Clone(whole)
		b := whole[:len(second)]
		got, err := posting.Unpack(b)
		again, _ := posting.Unpack(b)
		posting.Seek(b, 3)
		overwrite(got)
		if !slices.Equal(again, l) || err != api.OK || !bytes.Equal(whole, was) {
			t.Fatalf("Unpack(%.40v) is %.40v, %d", was, again, err)
		}
		clear(whole)
		if !slices.Equal(again, l) {
			t.Fatalf("the unpacked %.40v became %.40v", l, again)
		}
		b = append(b[:len(b)-1], 0)
		posting.Unpack(b)
		posting.Seek(b, 3)
		if !bytes.Equal(whole, make([]byte, len(whole))) {
			t.Fatalf("bytes that are no encoding became %v", whole)
		}
	}
}

// TestLarge checks lists and numbers of lists that are so long that time for each element that grows with all elements would be too long.
func TestLarge(t *testing.T) { // P5.2, P5.3
	const n = 300000
	even, third := stepped(-n, n, 2), stepped(2*n, n, -3)
	both, either, rest := posting.And(even, third), posting.Or(even, third), posting.Minus(even, third)
	if len(rest)+len(both) != n || len(either)+len(both) != 2*n || !slices.IsSorted(both) || !slices.IsSorted(either) || !slices.IsSorted(rest) {
		t.Errorf("And, Or and Minus have %d, %d and %d elements", len(both), len(either), len(rest))
	}
	if got := posting.AtLeast(2, even, third, slices.Repeat([]int{-n - 1}, n)); !slices.Equal(got, both) {
		t.Errorf("AtLeast has %d elements, not %d", len(got), len(both))
	}
	var lists [][]int
	for i := range n {
		lists = append(lists, []int{i % 7, 8, 8})
	}
	if got := posting.AtLeast(n, lists...); !slices.Equal(got, []int{8}) {
		t.Errorf("AtLeast of all lists is %v", got)
	}
	if got := posting.AtLeast(n/7+1, lists...); !slices.Equal(got, []int{0, 8}) {
		t.Errorf("AtLeast of more than a seventh of the lists is %v", got)
	}
}
