package varint_test

import (
	"bytes"
	"math"
	"math/big"
	"slices"
	"strings"
	"testing"

	"codesearch/api"
	"codesearch/varint"
)

const greatest = 1 << 62 // of the numbers and the elements that are read

// power returns 128^k.
func power(k int) *big.Int {
	return new(big.Int).Exp(big.NewInt(128), big.NewInt(int64(k)), nil)
}

// encoding follows the definition: the digits of n to the base 128 in the least number of bytes, all but the last one plus 128.
func encoding(n int) []byte {
	value := big.NewInt(int64(max(n, 0)))
	k := 1
	for value.Cmp(power(k)) >= 0 {
		k++
	}
	b := make([]byte, k)
	for i := range b {
		digit := new(big.Int).Div(value, power(i))
		digit.Mod(digit, big.NewInt(128))
		b[i] = byte(digit.Int64()) + 128
	}
	b[k-1] -= 128
	return b
}

func stringEncoding(s string) []byte {
	return append(encoding(len(s)), s...)
}

// listEncoding returns the encoding of a list whose elements are increasing and not negative.
func listEncoding(l []int) []byte {
	b := encoding(len(l))
	for i, n := range l {
		if i > 0 {
			n -= l[i-1]
		}
		b = append(b, encoding(n)...)
	}
	return b
}

// read follows P3.2, with numbers that cannot exceed the greatest int.
func read(b []byte, at int) (int, int, api.Errno) {
	if !(0 <= at && at <= len(b)) {
		return 0, 0, api.ErrRange
	}
	last := slices.IndexFunc(b[at:], func(c byte) bool { return c < 128 })
	if last < 0 {
		return 0, 0, api.ErrShort
	}
	number := b[at : at+last+1]
	value := new(big.Int)
	for i, c := range number {
		value.Add(value, new(big.Int).Mul(big.NewInt(int64(c&127)), power(i)))
	}
	if len(number) > 9 || value.Cmp(big.NewInt(greatest)) > 0 {
		return 0, 0, api.ErrLong
	}
	if len(number) >= 2 && number[last] == 0 {
		return 0, 0, api.ErrForm
	}
	return int(value.Int64()), at + last + 1, api.OK
}

// readString follows P3.3.
func readString(b []byte, at, most int) (string, int, api.Errno) {
	n, at, err := read(b, at)
	switch {
	case err != api.OK:
		return "", 0, err
	case n > most:
		return "", 0, api.ErrLong
	case len(b[at:]) < n:
		return "", 0, api.ErrShort
	}
	return string(b[at : at+n]), at + n, api.OK
}

// readList follows P3.5, with sums that cannot exceed the greatest int.
func readList(b []byte, at, most int) ([]int, int, api.Errno) {
	n, at, err := read(b, at)
	if err != api.OK {
		return nil, 0, err
	}
	if n > most {
		return nil, 0, api.ErrLong
	}
	sum := new(big.Int)
	var l []int
	for len(l) < n {
		var step int
		step, at, err = read(b, at)
		if err != api.OK {
			return nil, 0, err
		}
		if step == 0 && len(l) > 0 {
			return nil, 0, api.ErrForm
		}
		sum.Add(sum, big.NewInt(int64(step)))
		if sum.Cmp(big.NewInt(greatest)) > 0 {
			return nil, 0, api.ErrLong
		}
		l = append(l, int(sum.Int64()))
	}
	return l, at, api.OK
}

// someNumbers are numbers from 0 to the greatest int: small ones, those around the powers of 128 and of 2, and some with digits of all kinds.
func someNumbers() []int {
	numbers := []int{300, 16511, 1234567890123456789, greatest - 1, greatest, greatest + 1, math.MaxInt - 1, math.MaxInt}
	for n := range 1000 {
		numbers = append(numbers, n)
	}
	for shift := 1; shift < 63; shift++ {
		for near := -2; near <= 2; near++ {
			numbers = append(numbers, max(1<<shift+near, 0))
		}
	}
	for n := 1; n < math.MaxInt/11; n = n*11 + 5 {
		numbers = append(numbers, n)
	}
	return numbers
}

// readable returns the elements of numbers that can be read back.
func readable(numbers []int) []int {
	return slices.DeleteFunc(numbers, func(n int) bool { return n > greatest })
}

// someBytes are what may lie before and after an encoding.
func someBytes() [][]byte {
	return [][]byte{nil, {}, {0}, {1}, {127}, {128}, {255}, {9, 8, 7}, {128, 0}, {1, 255, 128}, bytes.Repeat([]byte{200}, 30)}
}

func someStrings() []string {
	return []string{"", "a", "ab", "\x00", "\x80\x00", "\xff\xff\xff", "\u00e9\n\t", "two\nlines\n", strings.Repeat("x", 127), strings.Repeat("y", 128), strings.Repeat("\x81", 129), strings.Repeat("z", 16384)}
}

// someLists are lists that can be put and read back.
func someLists() [][]int {
	var long []int
	for i := range 300 {
		long = append(long, i*i*i)
	}
	return [][]int{nil, {}, {0}, {1}, {0, 1}, {0, 1, 2, 3}, {5, 6, 7}, {3, 5, 300}, {127, 128, 255, 256, 384}, {0, greatest}, {greatest}, {greatest - 1, greatest}, {1, 1 << 20, 1 << 40, greatest}, long, long[:128], long[1:128]}
}

// wrongLists are lists that cannot be put.
func wrongLists() [][]int {
	return [][]int{{-1}, {math.MinInt}, {-1, 0}, {-2, -1}, {math.MinInt, math.MaxInt}, {-5, 3, 4}, {0, 0}, {1, 1}, {1, 0}, {5, 4}, {0, -1}, {3, math.MinInt}, {0, 1, 1}, {0, 2, 1}, {1, 2, 3, 3}, {1, 2, 4, 3}, {1, 2, 0, 3}, {7, 8, -9}, {math.MaxInt, math.MinInt}, {math.MaxInt, math.MaxInt}, {math.MaxInt - 1, math.MaxInt, 0}}
}

// join returns new memory with the bytes of all parts.
func join(parts ...[]byte) []byte { return bytes.Join(parts, nil) }

// before is bytes that are put before an input, to read it at a greater index.
var before = []byte{255, 0, 130}

// shifted returns an index of an input as it is behind before; it stays 0 where an error leaves no index.
func shifted(end int, err api.Errno) int {
	if err != api.OK {
		return end
	}
	return end + len(before)
}

// strs returns all sequences of at most n of the bytes of alphabet.
func strs(alphabet []byte, n int) [][]byte {
	all := [][]byte{nil}
	for from := 0; n > 0; n-- {
		to := len(all)
		for _, s := range all[from:to] {
			for _, c := range alphabet {
				all = append(all, append(slices.Clone(s), c))
			}
		}
		from = to
	}
	return all
}

func TestErrorCodes(t *testing.T) { // the codes that the chapter names
	if api.OK != 0 || api.ErrArg != 1 || api.ErrRange != 2 || api.ErrForm != 3 || api.ErrLong != 4 || api.ErrShort != 5 {
		t.Error("the error codes are not those of the chapter")
	}
}

func TestPutNamed(t *testing.T) { // P3.1, P3.8
	for _, x := range []struct {
		n    int
		want string
	}{
		{0, "\x00"},
		{1, "\x01"},
		{127, "\x7f"},
		{128, "\x80\x01"},
		{129, "\x81\x01"},
		{255, "\xff\x01"},
		{256, "\x80\x02"},
		{300, "\xac\x02"},
		{16383, "\xff\x7f"},
		{16384, "\x80\x80\x01"},
		{math.MaxInt32, "\xff\xff\xff\xff\x07"},
		{greatest - 1, "\xff\xff\xff\xff\xff\xff\xff\xff\x3f"},
		{greatest, "\x80\x80\x80\x80\x80\x80\x80\x80\x40"},
		{greatest + 1, "\x81\x80\x80\x80\x80\x80\x80\x80\x40"},
		{math.MaxInt, "\xff\xff\xff\xff\xff\xff\xff\xff\x7f"},
		{-1, "\x00"},
		{-127, "\x00"},
		{-128, "\x00"},
		{-129, "\x00"},
		{-300, "\x00"},
		{math.MinInt + 1, "\x00"},
		{math.MinInt, "\x00"},
	} {
		if got := varint.Put(nil, x.n); string(got) != x.want {
			t.Errorf("Put(nil, %d) is %v, not %v", x.n, got, []byte(x.want))
		}
	}
}

func TestPut(t *testing.T) { // P3.1
	for _, n := range someNumbers() {
		for _, b := range someBytes() {
			if got, want := varint.Put(b, n), join(b, encoding(n)); !bytes.Equal(got, want) {
				t.Fatalf("Put(%v, %d) is %v, not %v", b, n, got, want)
			}
		}
	}
}

// TestPutSizes checks the greatest number of k bytes and the least one, which is one more than the greatest of k - 1 bytes.
func TestPutSizes(t *testing.T) { // P3.8
	for k := 1; k <= 9; k++ {
		least, most := 0, math.MaxInt
		if k > 1 {
			least = int(power(k - 1).Int64())
		}
		if k < 9 {
			most = int(power(k).Int64()) - 1
		}
		for _, n := range []int{least, least + 1, most - 1, most} {
			for _, b := range someBytes() {
				got := varint.Put(b, n)
				if len(got) != len(b)+k || !bytes.HasPrefix(got, b) {
					t.Errorf("Put(%v, %d) is %v: not %d bytes more", b, n, got, k)
				}
			}
		}
	}
	for _, n := range []int{-1, -127, -128, -1 << 40, math.MinInt} {
		if got := varint.Put([]byte{7}, n); !bytes.Equal(got, []byte{7, 0}) {
			t.Errorf("Put(7, %d) is %v", n, got)
		}
	}
}

func TestPutString(t *testing.T) { // P3.1
	if got := varint.PutString(nil, "ab"); !bytes.Equal(got, []byte{2, 97, 98}) {
		t.Errorf("PutString(nil, %q) is %v", "ab", got)
	}
	if got := varint.PutString(nil, ""); !bytes.Equal(got, []byte{0}) {
		t.Errorf("PutString(nil, %q) is %v", "", got)
	}
	for _, s := range someStrings() {
		for _, b := range someBytes() {
			if got, want := varint.PutString(b, s), join(b, stringEncoding(s)); !bytes.Equal(got, want) {
				t.Errorf("PutString(%v, %.10q) is %.20v, not %.20v", b, s, got, want)
			}
		}
	}
}

func TestPutList(t *testing.T) { // P3.4
	for _, x := range []struct {
		l    []int
		want []byte
	}{
		{nil, []byte{0}},
		{[]int{}, []byte{0}},
		{[]int{0}, []byte{1, 0}},
		{[]int{128}, []byte{1, 128, 1}},
		{[]int{0, 1}, []byte{2, 0, 1}},
		{[]int{7, 8, 9}, []byte{3, 7, 1, 1}},
		{[]int{3, 5, 300}, []byte{3, 3, 2, 167, 2}},
	} {
		if got, err := varint.PutList(nil, x.l); err != api.OK || !bytes.Equal(got, x.want) {
			t.Errorf("PutList(nil, %v) is %v, %d, not %v", x.l, got, err, x.want)
		}
	}
	lists := append(someLists(), []int{greatest + 1}, []int{math.MaxInt}, []int{0, math.MaxInt}, []int{1, greatest, math.MaxInt}, []int{math.MaxInt - 1, math.MaxInt})
	for _, l := range lists {
		for _, b := range someBytes() {
			got, err := varint.PutList(b, l)
			if want := join(b, listEncoding(l)); err != api.OK || !bytes.Equal(got, want) {
				t.Errorf("PutList(%v, %.10v) is %.20v, %d, not %.20v", b, l, got, err, want)
			}
		}
	}
}

func TestPutListErrors(t *testing.T) { // P3.4
	for _, l := range wrongLists() {
		for _, b := range someBytes() {
			if got, err := varint.PutList(b, l); err != api.ErrArg || len(got) != 0 {
				t.Errorf("PutList(%v, %v) is %v, %d", b, l, got, err)
			}
		}
	}
}

func TestPutListOfAllShortLists(t *testing.T) { // P3.4
	for _, s := range strs([]byte{0, 1, 2, 3, 4, 5}, 5) {
		var l []int
		wrong := false
		for i, c := range s {
			l = append(l, int(c)-2)
			wrong = wrong || l[i] < 0 || i > 0 && l[i] <= l[i-1]
		}
		got, err := varint.PutList(nil, l)
		if wrong && (err != api.ErrArg || len(got) != 0) || !wrong && (err != api.OK || !bytes.Equal(got, listEncoding(l))) {
			t.Fatalf("PutList(nil, %v) is %v, %d", l, got, err)
		}
	}
}

// TestCapacity checks that nothing is written behind the end of a slice, and that its capacity does not matter.
func TestCapacity(t *testing.T) { // P3.1, P3.4, P3.8
	const size = 60
	whole := make([]byte, size)
	for i := range whole {
		whole[i] = byte(200 - i)
	}
	was := slices.Clone(whole)
	for end := range size + 1 {
		b := whole[:end]
		for _, n := range []int{-5, 0, 5, 127, 128, 70000, greatest, math.MaxInt} {
			if got, want := varint.Put(b, n), join(was[:end], encoding(n)); !bytes.Equal(got, want) {
				t.Fatalf("Put(%v, %d) is %v", b, n, got)
			}
		}
		for _, s := range []string{"", "a", "abc", strings.Repeat("x", 128)} {
			if got, want := varint.PutString(b, s), join(was[:end], stringEncoding(s)); !bytes.Equal(got, want) {
				t.Fatalf("PutString(%v, %q) is %v", b, s, got)
			}
		}
		for _, l := range [][]int{nil, {0}, {1, 2, 3}, {5, 1000, greatest}} {
			if got, err := varint.PutList(b, l); err != api.OK || !bytes.Equal(got, join(was[:end], listEncoding(l))) {
				t.Fatalf("PutList(%v, %v) is %v, %d", b, l, got, err)
			}
		}
		for _, l := range wrongLists() {
			if got, err := varint.PutList(b, l); err != api.ErrArg || len(got) != 0 {
				t.Fatalf("PutList(%v, %v) is %v, %d", b, l, got, err)
			}
		}
		if !bytes.Equal(whole, was) {
			t.Fatalf("what lies behind the end at %d was changed to %v", end, whole)
		}
	}
}

// TestResultsAreNew checks that results share no memory with b, nor with other results that begin with it.
func TestResultsAreNew(t *testing.T) { // P3.1, P3.4, P3.8
	list := func(b []byte, l ...int) []byte {
		got, err := varint.PutList(b, l)
		if err != api.OK {
			t.Fatal(err)
		}
		return got
	}
	for _, b := range [][]byte{{}, {5}, varint.Put(nil, 300), varint.PutString(nil, "abc"), list(nil, 1, 2, 3), make([]byte, 3, 100)} {
		was := slices.Clone(b)
		results := [][]byte{varint.Put(b, 1), varint.Put(b, 2), varint.Put(b, -1), varint.Put(b, 1000), varint.PutString(b, ""), varint.PutString(b, "x"), varint.PutString(b, "yz"), list(b), list(b, 4), list(b, 5, 6)}
		wants := [][]byte{{1}, {2}, {0}, {232, 7}, {0}, {1, 'x'}, {2, 'y', 'z'}, {0}, {1, 4}, {2, 5, 1}}
		for i, got := range results {
			if want := join(was, wants[i]); !bytes.Equal(got, want) {
				t.Errorf("result %d for %v is %v, not %v", i, was, got, want)
			}
			for k := range got {
				got[k] = 99
			}
		}
		if !bytes.Equal(b, was) {
			t.Errorf("%v became %v", was, b)
		}
	}
}

// TestArgumentsStay checks that lists and bytes are not modified, and that what is read shares no memory with them.
func TestArgumentsStay(t *testing.T) { // P3.2, P3.3, P3.4, P3.5
	for _, l := range append(someLists(), wrongLists()...) {
		was := slices.Clone(l)
		b, _ := varint.PutList(nil, l)
		for i := range b {
			b[i] = 99
		}
		if !slices.Equal(l, was) {
			t.Errorf("PutList changed %v to %v", was, l)
		}
	}
	b := []byte{3, 4, 1, 2, 9}
	was := slices.Clone(b)
	s, _, _ := varint.GetString(b, 0, 3)
	l, _, _ := varint.GetList(b, 0, 3)
	varint.Get(b, 0)
	if !bytes.Equal(b, was) {
		t.Errorf("reading changed %v to %v", was, b)
	}
	clear(b)
	if s != "\x04\x01\x02" || !slices.Equal(l, []int{4, 5, 7}) {
		t.Errorf("what was read became %q, %v", s, l)
	}
	m, _, _ := varint.GetList(was, 0, 3)
	clear(m)
	if !bytes.Equal(was, []byte{3, 4, 1, 2, 9}) {
		t.Errorf("changing what was read changed the bytes to %v", was)
	}
}

func TestGetNamed(t *testing.T) { // P3.2
	high := func(n int) []byte { return bytes.Repeat([]byte{128}, n) }
	for _, x := range []struct {
		b   []byte
		at  int
		n   int
		end int
		err api.Errno
	}{
		{[]byte{0}, 0, 0, 1, api.OK},
		{[]byte{127}, 0, 127, 1, api.OK},
		{[]byte{128, 1}, 0, 128, 2, api.OK},
		{[]byte{128, 1}, 1, 1, 2, api.OK},
		{[]byte{172, 2}, 0, 300, 2, api.OK},
		{[]byte{255, 172, 2, 255}, 1, 300, 3, api.OK},
		{[]byte{128, 128, 1}, 0, 16384, 3, api.OK},
		{[]byte{0, 0}, 0, 0, 1, api.OK},
		{[]byte{0, 0}, 1, 0, 2, api.OK},
		{[]byte("\x80\x80\x80\x80\x80\x80\x80\x80\x40"), 0, greatest, 9, api.OK},
		{[]byte("\xff\xff\xff\xff\xff\xff\xff\xff\x3f"), 0, greatest - 1, 9, api.OK},
		// outside of the bytes
		{nil, -1, 0, 0, api.ErrRange},
		{nil, 1, 0, 0, api.ErrRange},
		{[]byte{1}, -1, 0, 0, api.ErrRange},
		{[]byte{1}, 2, 0, 0, api.ErrRange},
		{[]byte{128}, 2, 0, 0, api.ErrRange},
		{[]byte{1}, math.MinInt, 0, 0, api.ErrRange},
		{[]byte{1}, math.MaxInt, 0, 0, api.ErrRange},
		{make([]byte, 1, 9), 2, 0, 0, api.ErrRange},
		// no last byte
		{nil, 0, 0, 0, api.ErrShort},
		{[]byte{1}, 1, 0, 0, api.ErrShort},
		{make([]byte, 1, 9), 1, 0, 0, api.ErrShort},
		{[]byte{128}, 0, 0, 0, api.ErrShort},
		{make([]byte, 9)[3:3:9], 0, 0, 0, api.ErrShort},
		{[]byte{1, 255}, 1, 0, 0, api.ErrShort},
		{high(8), 0, 0, 0, api.ErrShort},
		{high(9), 0, 0, 0, api.ErrShort},
		{high(10), 0, 0, 0, api.ErrShort},
		{high(1000), 0, 0, 0, api.ErrShort},
		// too many bytes, or too great
		{join(high(9), []byte{1}), 0, 0, 0, api.ErrLong},
		{join(high(10), []byte{1}), 0, 0, 0, api.ErrLong},
		{join(high(1000), []byte{1}), 0, 0, 0, api.ErrLong},
		{join(high(1000), []byte{1}), 992, 1 << 56, 1001, api.OK},
		{join(high(1000), []byte{1}), 991, 0, 0, api.ErrLong},
		{[]byte("\x81\x80\x80\x80\x80\x80\x80\x80\x40"), 0, 0, 0, api.ErrLong},
		{[]byte("\x80\x80\x80\x80\x80\x80\x80\x80\x41"), 0, 0, 0, api.ErrLong},
		{[]byte("\xff\xff\xff\xff\xff\xff\xff\xff\x7f"), 0, 0, 0, api.ErrLong},
		// more bytes than necessary; with too many of them ErrLong comes first
		{[]byte{128, 0}, 0, 0, 0, api.ErrForm},
		{[]byte{129, 0}, 0, 0, 0, api.ErrForm},
		{[]byte{255, 0, 1}, 0, 0, 0, api.ErrForm},
		{[]byte{128, 128, 0}, 0, 0, 0, api.ErrForm},
		{[]byte{128, 128, 0}, 2, 0, 3, api.OK},
		{join(high(7), []byte{0}), 0, 0, 0, api.ErrForm},
		{join(high(8), []byte{0}), 0, 0, 0, api.ErrForm},
		{join(high(9), []byte{0}), 0, 0, 0, api.ErrLong},
		{join(high(10), []byte{0}), 0, 0, 0, api.ErrLong},
		{join(high(10), []byte{0}), 2, 0, 0, api.ErrForm},
	} {
		if n, end, err := varint.Get(x.b, x.at); n != x.n || end != x.end || err != x.err {
			t.Errorf("Get(%.20v, %d) is %d, %d, %d, not %d, %d, %d", x.b, x.at, n, end, err, x.n, x.end, x.err)
		}
		if x.at < 0 || x.at > math.MaxInt-len(before) {
			continue
		}
		if n, end, err := varint.Get(join(before, x.b), x.at+len(before)); n != x.n || end != shifted(x.end, x.err) || err != x.err {
			t.Errorf("Get(%.20v, %d) behind other bytes is %d, %d, %d", x.b, x.at, n, end, err)
		}
	}
}

// checkGet compares Get with what the chapter says, and checks that a number has one encoding.
func checkGet(t *testing.T, b []byte, at int) {
	t.Helper()
	n, end, err := varint.Get(b, at)
	if wantN, wantEnd, wantErr := read(b, at); n != wantN || end != wantEnd || err != wantErr {
		t.Fatalf("Get(%v, %d) is %d, %d, %d, not %d, %d, %d", b, at, n, end, err, wantN, wantEnd, wantErr)
	}
	if err == api.OK && !bytes.Equal(b[at:end], varint.Put(nil, n)) {
		t.Fatalf("Get(%v, %d) is %d, which is put as %v", b, at, n, varint.Put(nil, n))
	}
}

// checkGetString does the same for GetString.
func checkGetString(t *testing.T, b []byte, at, most int) {
	t.Helper()
	s, end, err := varint.GetString(b, at, most)
	if wantS, wantEnd, wantErr := readString(b, at, most); s != wantS || end != wantEnd || err != wantErr {
		t.Fatalf("GetString(%v, %d, %d) is %q, %d, %d, not %q, %d, %d", b, at, most, s, end, err, wantS, wantEnd, wantErr)
	}
	if err == api.OK && !bytes.Equal(b[at:end], varint.PutString(nil, s)) {
		t.Fatalf("GetString(%v, %d, %d) is %q, which is put as %v", b, at, most, s, varint.PutString(nil, s))
	}
}

// checkGetList does the same for GetList.
func checkGetList(t *testing.T, b []byte, at, most int) {
	t.Helper()
	l, end, err := varint.GetList(b, at, most)
	if wantL, wantEnd, wantErr := readList(b, at, most); !slices.Equal(l, wantL) || end != wantEnd || err != wantErr {
		t.Fatalf("GetList(%v, %d, %d) is %v, %d, %d, not %v, %d, %d", b, at, most, l, end, err, wantL, wantEnd, wantErr)
	}
	if err != api.OK {
		return
	}
	if again, err := varint.PutList(nil, l); err != api.OK || !bytes.Equal(b[at:end], again) {
		t.Fatalf("GetList(%v, %d, %d) is %v, which is put as %v, %d", b, at, most, l, again, err)
	}
}

func TestAllShortBytes(t *testing.T) { // P3.2, P3.3, P3.5, P3.7
	for _, b := range strs([]byte{0, 1, 2, 3, 127, 128, 130, 255}, 4) {
		for at := -1; at <= len(b)+1; at++ {
			checkGet(t, b, at)
			for _, most := range []int{math.MinInt, -1, 0, 1, 2, 3, 4, 255, 256, math.MaxInt} {
				checkGetString(t, b, at, most)
				checkGetList(t, b, at, most)
			}
		}
	}
	for _, b := range strs([]byte{0, 1, 2, 4, 128}, 7) {
		checkGet(t, b, 0)
		checkGetString(t, b, 0, 3)
		checkGetList(t, b, 0, 4)
	}
}

// longNumbers returns sequences of up to 12 bytes of which all but the last one are at least 128.
func longNumbers() [][]byte {
	var all [][]byte
	for size := 1; size <= 12; size++ {
		for _, c := range []byte{128, 129, 255} {
			for _, last := range []byte{0, 1, 2, 31, 32, 63, 64, 65, 127} {
				for odd := range size {
					b := bytes.Repeat([]byte{c}, size)
					b[odd] = 170
					b[0] ^= last & 1
					b[size-1] = last
					all = append(all, b)
				}
			}
		}
	}
	return all
}

// TestLongNumbers checks numbers of many bytes alone, as the length of a string, and as the count and an element of a list.
func TestLongNumbers(t *testing.T) { // P3.2, P3.3, P3.5, P3.7
	for _, number := range longNumbers() {
		b := join([]byte{255}, number, []byte{1, 128})
		for at := range len(b) + 1 {
			checkGet(t, b, at)
		}
		for _, most := range []int{-1, 0, 127, greatest - 1, greatest, math.MaxInt} {
			checkGetString(t, b, 1, most)
			checkGetList(t, b, 1, most)
		}
		checkGetList(t, join([]byte{1}, number), 0, 1)
		checkGetList(t, join([]byte{2, 0}, number), 0, 2)
		checkGetList(t, join([]byte{2, 1}, number), 0, 2)
		checkGetList(t, join([]byte{2}, number, []byte{1}), 0, 2)
		checkGetList(t, join([]byte{2}, number, number), 0, 2)
		checkGetList(t, join([]byte{3}, number, number, number), 0, 3)
	}
}

func TestGetString(t *testing.T) { // P3.3
	long := strings.Repeat("q", 128)
	for _, x := range []struct {
		b    string
		at   int
		most int
		s    string
		end  int
		err  api.Errno
	}{
		{"\x02abc", 0, 2, "ab", 3, api.OK},
		{"\x02abc", 0, 3, "ab", 3, api.OK},
		{"\x02abc", 0, math.MaxInt, "ab", 3, api.OK},
		{"\x02abc", 0, 1, "", 0, api.ErrLong},
		{"\x02abc", 0, 0, "", 0, api.ErrLong},
		{"\x02abc", 0, -1, "", 0, api.ErrLong},
		{"\x02abc", 0, math.MinInt, "", 0, api.ErrLong},
		{"\x00", 0, 0, "", 1, api.OK},
		{"\x00", 0, -1, "", 0, api.ErrLong},
		{"\x00", 0, math.MinInt, "", 0, api.ErrLong},
		{"\x00a", 0, 0, "", 1, api.OK},
		{"xy\x01\xff\x01", 2, 1, "\xff", 4, api.OK},
		{"\x80\x01" + long, 0, 128, long, 130, api.OK},
		{"\x80\x01" + long, 0, 127, "", 0, api.ErrLong},
		{"\x80\x01" + long, 1, 127, "q", 3, api.OK},
		{"\x03ab", 0, 3, "", 0, api.ErrShort},
		{"\x01", 0, 1, "", 0, api.ErrShort},
		{"\x80\x01" + long[1:], 0, 128, "", 0, api.ErrShort},
		{"\x80\x80\x80\x80\x80\x80\x80\x80\x40abc", 0, math.MaxInt, "", 0, api.ErrShort},
		// errors of the length, whatever most is
		{"", 0, 5, "", 0, api.ErrShort},
		{"\x02ab", 3, 5, "", 0, api.ErrShort},
		{"\x80", 0, -1, "", 0, api.ErrShort},
		{"\x02ab", 4, 5, "", 0, api.ErrRange},
		{"\x02ab", -1, -1, "", 0, api.ErrRange},
		{"\x02ab", math.MinInt, 5, "", 0, api.ErrRange},
		{"\x02ab", math.MaxInt, 5, "", 0, api.ErrRange},
		{"\x82\x00ab", 0, 5, "", 0, api.ErrForm},
		{"\x82\x00ab", 0, -1, "", 0, api.ErrForm},
		{"\x81\x80\x80\x80\x80\x80\x80\x80\x40a", 0, math.MaxInt, "", 0, api.ErrLong},
		{"\x80\x80\x80\x80\x80\x80\x80\x80\x80\x00", 0, math.MaxInt, "", 0, api.ErrLong},
		// too long and too short: ErrLong comes first
		{"\x03ab", 0, 2, "", 0, api.ErrLong},
		{"\x01", 0, 0, "", 0, api.ErrLong},
	} {
		if s, end, err := varint.GetString([]byte(x.b), x.at, x.most); s != x.s || end != x.end || err != x.err {
			t.Errorf("GetString(%.20q, %d, %d) is %.10q, %d, %d, not %.10q, %d, %d", x.b, x.at, x.most, s, end, err, x.s, x.end, x.err)
		}
		if x.at < 0 || x.at > math.MaxInt-len(before) {
			continue
		}
		if s, end, err := varint.GetString(join(before, []byte(x.b)), x.at+len(before), x.most); s != x.s || end != shifted(x.end, x.err) || err != x.err {
			t.Errorf("GetString(%.20q, %d, %d) behind other bytes is %.10q, %d, %d", x.b, x.at, x.most, s, end, err)
		}
	}
	// what lies behind the end of a slice is not read
	if s, end, err := varint.GetString([]byte("\x03abc")[:3], 0, 3); s != "" || end != 0 || err != api.ErrShort {
		t.Errorf("GetString of a shortened slice is %q, %d, %d", s, end, err)
	}
}

func TestGetList(t *testing.T) { // P3.5
	const top = "\x80\x80\x80\x80\x80\x80\x80\x80\x40"  // the encoding of greatest
	const over = "\x81\x80\x80\x80\x80\x80\x80\x80\x40" // of one more
	for _, x := range []struct {
		b    string
		at   int
		most int
		l    []int
		end  int
		err  api.Errno
	}{
		{"\x00", 0, 0, nil, 1, api.OK},
		{"\x00\x05", 0, 9, nil, 1, api.OK},
		{"\x00", 0, -1, nil, 0, api.ErrLong},
		{"\x00", 0, math.MinInt, nil, 0, api.ErrLong},
		{"\x01\x00", 0, 1, []int{0}, 2, api.OK},
		{"\x02\x00\x01", 0, 2, []int{0, 1}, 3, api.OK},
		{"\x03\x07\x01\x01\x01", 0, 3, []int{7, 8, 9}, 4, api.OK},
		{"\x03\x03\x02\xa7\x02", 0, 3, []int{3, 5, 300}, 5, api.OK},
		{"\xff\x03\x03\x02\xa7\x02\xff", 1, math.MaxInt, []int{3, 5, 300}, 6, api.OK},
		{"\x03\x03\x02\xa7\x02", 0, 2, nil, 0, api.ErrLong},
		{"\x03\x03\x02\xa7\x02", 0, 0, nil, 0, api.ErrLong},
		{"\x03\x03\x02\xa7\x02", 0, -1, nil, 0, api.ErrLong},
		{"\x01" + top, 0, 1, []int{greatest}, 10, api.OK},
		{"\x02\x00" + top, 0, 2, []int{0, greatest}, 11, api.OK},
		// errors of the count, whatever most is
		{"", 0, 5, nil, 0, api.ErrShort},
		{"\x80", 0, -1, nil, 0, api.ErrShort},
		{"\x00", 1, 5, nil, 0, api.ErrShort},
		{"\x00", 2, 5, nil, 0, api.ErrRange},
		{"\x00", -1, -1, nil, 0, api.ErrRange},
		{"\x00", math.MaxInt, 5, nil, 0, api.ErrRange},
		{"\x00", math.MinInt, 5, nil, 0, api.ErrRange},
		{"\x81\x00\x05", 0, 5, nil, 0, api.ErrForm},
		{"\x81\x00\x05", 0, -1, nil, 0, api.ErrForm},
		{over, 0, math.MaxInt, nil, 0, api.ErrLong},
		{"\x81\x80\x80\x80\x80\x80\x80\x80\x80\x00", 0, math.MaxInt, nil, 0, api.ErrLong},
		// a count that is too great for most comes before errors of the elements
		{"\x02", 0, 1, nil, 0, api.ErrLong},
		{"\x02\x04\x00", 0, 1, nil, 0, api.ErrLong},
		{"\x02\x84\x00", 0, 1, nil, 0, api.ErrLong},
		// errors of the elements
		{"\x01", 0, 5, nil, 0, api.ErrShort},
		{"\x02\x04", 0, 5, nil, 0, api.ErrShort},
		{"\x02\x04\x85", 0, 5, nil, 0, api.ErrShort},
		{top, 0, math.MaxInt, nil, 0, api.ErrShort},
		{top + "\x01\x02\x03", 0, math.MaxInt, nil, 0, api.ErrShort},
		{"\x02\x04\x00", 0, 5, nil, 0, api.ErrForm},
		{"\x02\x00\x00", 0, 5, nil, 0, api.ErrForm},
		{"\x03\x04\x01\x00", 0, 5, nil, 0, api.ErrForm},
		{"\x01\x84\x00", 0, 5, nil, 0, api.ErrForm},
		{"\x02\x04\x84\x00", 0, 5, nil, 0, api.ErrForm},
		{"\x01" + over, 0, 5, nil, 0, api.ErrLong},
		{"\x02\x00" + over, 0, 5, nil, 0, api.ErrLong},
		{"\x02\x01" + top, 0, 5, nil, 0, api.ErrLong},
		{"\x02" + top + "\x01", 0, 5, nil, 0, api.ErrLong},
		{"\x02" + top + top, 0, 5, nil, 0, api.ErrLong},
		{"\x02" + top + "\x00", 0, 5, nil, 0, api.ErrForm},
		// the first element with an error decides
		{"\x03\x04\x00\x84\x00", 0, 5, nil, 0, api.ErrForm},
		{"\x03\x01" + top + "\x00", 0, 5, nil, 0, api.ErrLong},
		{"\x03\x04\x00" + over, 0, 5, nil, 0, api.ErrForm},
		{"\x03\x04\x00", 0, 5, nil, 0, api.ErrForm},
		{"\x03\x01" + top, 0, 5, nil, 0, api.ErrLong},
		{"\x03\x04\x81\x00", 0, 5, nil, 0, api.ErrForm},
		{"\x03\x04" + over + "\x80", 0, 5, nil, 0, api.ErrLong},
		{"\x03\x04\x01\x80", 0, 5, nil, 0, api.ErrShort},
	} {
		if l, end, err := varint.GetList([]byte(x.b), x.at, x.most); !slices.Equal(l, x.l) || end != x.end || err != x.err {
			t.Errorf("GetList(%q, %d, %d) is %v, %d, %d, not %v, %d, %d", x.b, x.at, x.most, l, end, err, x.l, x.end, x.err)
		}
		if x.at < 0 || x.at > math.MaxInt-len(before) {
			continue
		}
		if l, end, err := varint.GetList(join(before, []byte(x.b)), x.at+len(before), x.most); !slices.Equal(l, x.l) || end != shifted(x.end, x.err) || err != x.err {
			t.Errorf("GetList(%q, %d, %d) behind other bytes is %v, %d, %d", x.b, x.at, x.most, l, end, err)
		}
	}
	// what lies behind the end of a slice is not read
	if l, end, err := varint.GetList([]byte{2, 1, 1}[:2], 0, 2); len(l) != 0 || end != 0 || err != api.ErrShort {
		t.Errorf("GetList of a shortened slice is %v, %d, %d", l, end, err)
	}
}

func TestReadBack(t *testing.T) { // P3.6
	for _, a := range someBytes() {
		for _, b := range someBytes() {
			for _, n := range readable(someNumbers()) {
				all := join(varint.Put(a, n), b)
				if got, end, err := varint.Get(all, len(a)); got != n || end != len(all)-len(b) || err != api.OK {
					t.Fatalf("%d between %v and %v: Get is %d, %d, %d", n, a, b, got, end, err)
				}
			}
			for _, s := range someStrings() {
				all := join(varint.PutString(a, s), b)
				for _, most := range []int{len(s), len(s) + 1, math.MaxInt} {
					if got, end, err := varint.GetString(all, len(a), most); got != s || end != len(all)-len(b) || err != api.OK {
						t.Fatalf("%.10q between %v and %v: GetString is %.10q, %d, %d", s, a, b, got, end, err)
					}
				}
				if got, end, err := varint.GetString(all, len(a), len(s)-1); got != "" || end != 0 || err != api.ErrLong {
					t.Fatalf("%.10q is too long: GetString is %.10q, %d, %d", s, got, end, err)
				}
			}
			for _, l := range someLists() {
				put, _ := varint.PutList(a, l)
				all := join(put, b)
				for _, most := range []int{len(l), len(l) + 1, math.MaxInt} {
					if got, end, err := varint.GetList(all, len(a), most); !slices.Equal(got, l) || end != len(put) || err != api.OK {
						t.Fatalf("%.10v between %v and %v: GetList is %.10v, %d, %d", l, a, b, got, end, err)
					}
				}
				if got, end, err := varint.GetList(all, len(a), len(l)-1); len(got) != 0 || end != 0 || err != api.ErrLong {
					t.Fatalf("%.10v is too long: GetList is %.10v, %d, %d", l, got, end, err)
				}
			}
		}
	}
}

// TestTooGreatToReadBack checks numbers and elements that can be put, but are too great to be read.
func TestTooGreatToReadBack(t *testing.T) { // P3.2, P3.5
	for _, n := range []int{greatest + 1, greatest + 128, math.MaxInt - 1, math.MaxInt} {
		if got, end, err := varint.Get(varint.Put(nil, n), 0); got != 0 || end != 0 || err != api.ErrLong {
			t.Errorf("Get of %d is %d, %d, %d", n, got, end, err)
		}
		for _, l := range [][]int{{n}, {0, n}, {1, n}, {n - greatest, n}, {n - greatest + 1, n}, {greatest, n}, {5, greatest - 1, n}} {
			b, err := varint.PutList(nil, l)
			if err != api.OK {
				t.Errorf("PutList(nil, %v) returns %d", l, err)
			}
			if got, end, err := varint.GetList(b, 0, 9); len(got) != 0 || end != 0 || err != api.ErrLong {
				t.Errorf("GetList of %v is %v, %d, %d", l, got, end, err)
			}
		}
	}
}

// TestSeveralAfterAnother reads a sequence of encodings with the indices that are returned.
func TestSeveralAfterAnother(t *testing.T) { // P3.6
	var b []byte
	for _, n := range readable(someNumbers()) {
		b = varint.PutString(varint.Put(b, n), string(encoding(n)))
		b, _ = varint.PutList(b, []int{n / 3, n/3 + 1, n/2 + 3})
	}
	at := 0
	for _, n := range readable(someNumbers()) {
		got, next, err := varint.Get(b, at)
		s, next2, err2 := varint.GetString(b, next, 9)
		l, next3, err3 := varint.GetList(b, next2, 3)
		if err != api.OK || err2 != api.OK || err3 != api.OK || got != n || s != string(encoding(n)) || !slices.Equal(l, []int{n / 3, n/3 + 1, n/2 + 3}) {
			t.Fatalf("at %d: %d %q %v, errors %d %d %d", at, got, s, l, err, err2, err3)
		}
		at = next3
	}
	if at != len(b) {
		t.Errorf("the last index is %d, not %d", at, len(b))
	}
}

// TestLarge checks a string and a list of a million bytes and elements, and a million bytes without a last one; a copy of what was put for each element would take very long.
func TestLarge(t *testing.T) { // P3.1 to P3.6
	const n = 1000000
	s := strings.Repeat("abcd\xff", n/5)
	b := varint.PutString(nil, s)
	if got, end, err := varint.GetString(b, 0, n); got != s || end != n+3 || err != api.OK {
		t.Errorf("GetString is %d bytes, %d, %d", len(got), end, err)
	}
	l := make([]int, n)
	for i := range l {
		l[i] = i * 100
	}
	b, err := varint.PutList([]byte{7}, l)
	if err != api.OK || len(b) != 1+3+n {
		t.Fatalf("PutList is %d bytes, %d", len(b), err)
	}
	if got, end, err := varint.GetList(b, 1, n); !slices.Equal(got, l) || end != len(b) || err != api.OK {
		t.Errorf("GetList is %d elements, %d, %d", len(got), end, err)
	}
	l[n-1] = l[n-2]
	if got, err := varint.PutList(nil, l); len(got) != 0 || err != api.ErrArg {
		t.Errorf("PutList is %d bytes, %d", len(got), err)
	}
	open := bytes.Repeat([]byte{129}, n)
	if got, end, err := varint.Get(open, 0); got != 0 || end != 0 || err != api.ErrShort {
		t.Errorf("Get is %d, %d, %d", got, end, err)
	}
	if got, end, err := varint.GetList(join([]byte{2, 1}, open, []byte{0}), 0, n); len(got) != 0 || end != 0 || err != api.ErrLong {
		t.Errorf("GetList is %v, %d, %d", got, end, err)
	}
}
