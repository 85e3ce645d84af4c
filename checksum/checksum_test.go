package checksum_test

import (
	"bytes"
	"hash/crc32"
	"math"
	"slices"
	"strings"
	"testing"

	"codesearch/api"
	"codesearch/checksum"
	"codesearch/varint"
)

const (
	allOnes  = math.MaxUint32
	greatest = 1 << 62 // of the lengths that are read
)

// after follows the definition of taking bytes, with the register as its bits, the lowest one first.
func after(register uint32, b []byte) uint32 {
	var bits, divisor [32]bool
	for i := range bits {
		bits[i] = register&(1<<i) != 0
		divisor[i] = 0x82f63b78&(1<<i) != 0
	}
	for _, c := range b {
		for i := range 8 {
			bits[i] = bits[i] != (c&(1<<i) != 0)
		}
		for range 8 {
			out := bits[0]
			copy(bits[:], bits[1:])
			bits[31] = false
			for i := range bits {
				bits[i] = bits[i] != (out && divisor[i])
			}
		}
	}
	register = 0
	for i, bit := range bits {
		if bit {
			register |= 1 << i
		}
	}
	return register
}

// sumOf follows P4.1, extended P4.2.
func sumOf(b []byte) uint32 { return after(allOnes, b) ^ allOnes }

func extended(sum uint32, b []byte) uint32 { return after(sum^allOnes, b) ^ allOnes }

// join returns new memory with the bytes of all parts.
func join(parts ...[]byte) []byte { return bytes.Join(parts, nil) }

// bigEndian returns the bytes of a checksum, the most significant one first.
func bigEndian(sum uint32) []byte {
	return []byte{byte(sum >> 24), byte(sum >> 16), byte(sum >> 8), byte(sum)}
}

// frame follows the definition of the frame of b.
func frame(b []byte) []byte {
	head := join(varint.Put(nil, len(b)), b)
	return join(head, bigEndian(sumOf(head)))
}

// open follows P4.4, and compares what is left of b with the frame that should be there.
func open(b []byte, at, most int) ([]byte, int, api.Errno) {
	size, from, err := varint.Get(b, at)
	if err != api.OK {
		return nil, 0, err
	}
	if most < size {
		return nil, 0, api.ErrLong
	}
	rest := b[from:]
	if len(rest) < size || len(rest)-size < 4 {
		return nil, 0, api.ErrShort
	}
	if whole := frame(rest[:size]); !bytes.HasPrefix(b[at:], whole) {
		return nil, 0, api.ErrSum
	}
	return rest[:size], from + size + 4, api.OK
}

// all follows P4.5.
func all(b []byte, most int) ([][]byte, int) {
	content, next, err := open(b, 0, most)
	if err != api.OK {
		return nil, 0
	}
	others, end := all(b[next:], most)
	return append([][]byte{content}, others...), next + end
}

// checkOpen compares Open with what the chapter says.
func checkOpen(t *testing.T, b []byte, at, most int) {
	t.Helper()
	got, next, err := checksum.Open(b, at, most)
	if want, wantNext, wantErr := open(b, at, most); !bytes.Equal(got, want) || next != wantNext || err != wantErr {
		t.Fatalf("Open(%.20v, %d, %d) is %.20v, %d, %d, not %.20v, %d, %d", b, at, most, got, next, err, want, wantNext, wantErr)
	}
}

// checkError checks that Open returns an error, and nothing besides it.
func checkError(t *testing.T, b []byte, at, most int, want api.Errno) {
	t.Helper()
	if got, next, err := checksum.Open(b, at, most); len(got) != 0 || next != 0 || err != want {
		t.Fatalf("Open(%.20v, %d, %d) is %.20v, %d, %d, not the error %d", b, at, most, got, next, err, want)
	}
}

// sameList reports whether a and b have the same contents in the same order.
func sameList(a, b [][]byte) bool { return slices.EqualFunc(a, b, bytes.Equal) }

// checkAll compares All with what the chapter says.
func checkAll(t *testing.T, b []byte, most int) {
	t.Helper()
	got, end := checksum.All(b, most)
	if want, wantEnd := all(b, most); !sameList(got, want) || end != wantEnd {
		t.Fatalf("All(%.20v, %d) is %.20v, %d, not %.20v, %d", b, most, got, end, want, wantEnd)
	}
}

// mixed returns n bytes of all kinds, others for another seed.
func mixed(n, seed int) []byte {
	b := make([]byte, n)
	state := uint32(seed)*2654435761 + 12345
	for i := range b {
		state = state*1664525 + 1013904223
		b[i] = byte(state >> 24)
	}
	return b
}

func someContents() [][]byte {
	contents := [][]byte{nil, {}, {0}, {1}, {127}, {128}, {255}, {0, 0}, {255, 255}, {0, 255}, []byte("123456789"), frame(nil), frame([]byte("ab"))}
	for _, n := range []int{3, 4, 5, 32, 126, 127, 128, 129, 255, 256} {
		contents = append(contents, make([]byte, n), bytes.Repeat([]byte{255}, n), mixed(n, n))
	}
	return contents
}

// someSums are 0, the greatest number, each single bit, and others.
func someSums() []uint32 {
	sums := []uint32{0, allOnes, allOnes - 1, math.MaxInt32, 0x82f63b78, 0x527d5351, 0xe3069283, 0x01020304, 3000000000}
	for i := range 32 {
		sums = append(sums, 1<<i, allOnes^1<<i)
	}
	return sums
}

// someMosts are greatest lengths of all kinds, those around n among them.
func someMosts(n int) []int {
	return []int{math.MinInt, -n - 1, -1, 0, 1, n - 1, n, n + 1, n + 4, greatest, math.MaxInt}
}

// masks returns all ways in which n consecutive bytes may be changed by one of a few values each, at least one of them.
func masks(n int) [][]byte {
	list := [][]byte{nil}
	for range n {
		var longer [][]byte
		for _, mask := range list {
			for _, c := range []byte{0, 1, 0x55, 0x80, 0xff} {
				longer = append(longer, append(slices.Clone(mask), c))
			}
		}
		list = longer
	}
	return slices.DeleteFunc(list, func(mask []byte) bool { return bytes.Equal(mask, make([]byte, n)) })
}

// xor returns a copy of b in which the bytes from at on are changed by mask.
func xor(b []byte, at int, mask []byte) []byte {
	b = slices.Clone(b)
	for i, c := range mask {
		b[at+i] ^= c
	}
	return b
}

func TestSumNamed(t *testing.T) { // P4.1
	rising := make([]byte, 32)
	for i := range rising {
		rising[i] = byte(i)
	}
	falling := slices.Clone(rising)
	slices.Reverse(falling)
	for _, x := range []struct {
		b    []byte
		want uint32
	}{
		{nil, 0},
		{[]byte{}, 0},
		{[]byte{0}, 0x527d5351},
		{[]byte{255}, 0xff000000},
		{[]byte("a"), 0xc1d04330},
		{[]byte("123456789"), 0xe3069283},
		{make([]byte, 4), 0x48674bc7},
		{bytes.Repeat([]byte{255}, 4), allOnes},
		{make([]byte, 32), 0x8a9136aa},
		{bytes.Repeat([]byte{255}, 32), 0x62a8ab43},
		{rising, 0x46dd794e},
		{falling, 0x113fdb5c},
	} {
		if got := checksum.Sum(x.b); got != x.want {
			t.Errorf("Sum(%v) is %08x, not %08x", x.b, got, x.want)
		}
	}
}

func TestSum(t *testing.T) { // P4.1
	for first := range 256 {
		b := []byte{byte(first)}
		if got, want := checksum.Sum(b), sumOf(b); got != want {
			t.Fatalf("Sum(%v) is %08x, not %08x", b, got, want)
		}
		for second := range 256 {
			b := []byte{byte(first), byte(second)}
			if got, want := checksum.Sum(b), sumOf(b); got != want {
				t.Fatalf("Sum(%v) is %08x, not %08x", b, got, want)
			}
		}
	}
	table := crc32.MakeTable(crc32.Castagnoli)
	for _, b := range append(someContents(), mixed(2000, 1), mixed(1000000, 2)) {
		got := checksum.Sum(b)
		if want := crc32.Checksum(b, table); got != want {
			t.Errorf("Sum(%.20v) of %d bytes is %08x, not %08x", b, len(b), got, want)
		}
		if len(b) < 10000 && got != sumOf(b) {
			t.Errorf("Sum(%.20v) of %d bytes is %08x, not %08x", b, len(b), got, sumOf(b))
		}
	}
}

func TestExtendNamed(t *testing.T) { // P4.2
	for _, x := range []struct {
		sum  uint32
		b    string
		want uint32
	}{
		{0, "", 0},
		{0, "\x00", 0x527d5351},
		{0, "123456789", 0xe3069283},
		{allOnes, "", allOnes},
		{allOnes, "\x00", allOnes},                 // the register is 0 and stays so
		{allOnes, "\x00\x00\x00\x00\x00", allOnes}, // the same
		{allOnes, "\x80", 0x7d09c487},              // only the last one of the eight steps shifts out a 1
		{0xe3069283, "", 0xe3069283},
		{0x12345678, "", 0x12345678},
		{1, "", 1},
	} {
		if got := checksum.Extend(x.sum, []byte(x.b)); got != x.want {
			t.Errorf("Extend(%08x, %q) is %08x, not %08x", x.sum, x.b, got, x.want)
		}
	}
}

func TestExtend(t *testing.T) { // P4.2
	table := crc32.MakeTable(crc32.Castagnoli)
	for _, sum := range someSums() {
		for _, b := range someContents() {
			got := checksum.Extend(sum, b)
			if want := extended(sum, b); got != want {
				t.Fatalf("Extend(%08x, %.20v) is %08x, not %08x", sum, b, got, want)
			}
			if want := crc32.Update(sum, table, b); got != want {
				t.Fatalf("Extend(%08x, %.20v) is %08x, not %08x", sum, b, got, want)
			}
		}
	}
	for c := range 256 {
		for _, sum := range someSums() {
			b := []byte{byte(c)}
			if got, want := checksum.Extend(sum, b), extended(sum, b); got != want {
				t.Fatalf("Extend(%08x, %v) is %08x, not %08x", sum, b, got, want)
			}
		}
	}
}

func TestExtendContinues(t *testing.T) { // P4.2, P4.6
	for _, a := range someContents() {
		for _, b := range someContents() {
			if got, want := checksum.Extend(checksum.Sum(a), b), checksum.Sum(join(a, b)); got != want {
				t.Fatalf("%.20v and %.20v: Extend is %08x, not %08x", a, b, got, want)
			}
			for _, sum := range []uint32{0, 1, 0x12345678, allOnes} {
				if got, want := checksum.Extend(checksum.Extend(sum, a), b), checksum.Extend(sum, join(a, b)); got != want {
					t.Fatalf("%.20v and %.20v after %08x: Extend is %08x, not %08x", a, b, sum, got, want)
				}
			}
		}
	}
	whole := mixed(300, 7)
	for i := range len(whole) + 1 {
		if got := checksum.Extend(checksum.Sum(whole[:i]), whole[i:]); got != checksum.Sum(whole) {
			t.Fatalf("Extend after %d bytes is %08x, not %08x", i, got, checksum.Sum(whole))
		}
	}
}

func TestSumOfXor(t *testing.T) { // P4.6
	check := func(a, b, c []byte) {
		t.Helper()
		want := checksum.Sum(a) ^ checksum.Sum(b) ^ checksum.Sum(c)
		if got := checksum.Sum(xor(xor(a, 0, b), 0, c)); got != want {
			t.Fatalf("%.20v, %.20v and %.20v: %08x, not %08x", a, b, c, got, want)
		}
	}
	check(nil, nil, nil)
	for a := range 256 {
		for b := range 256 {
			for _, c := range []byte{0, 1, 127, 128, 255} {
				check([]byte{byte(a)}, []byte{byte(b)}, []byte{c})
			}
		}
	}
	for n := range 300 {
		check(mixed(n, 1), mixed(n, 2), mixed(n, 3))
		check(mixed(n, 4), make([]byte, n), bytes.Repeat([]byte{255}, n))
		check(mixed(n, 5), mixed(n, 5), mixed(n, 6))
	}
}

func TestSealNamed(t *testing.T) { // P4.3
	for _, x := range []struct {
		b    []byte
		want []byte
	}{
		{nil, []byte{0, 0x52, 0x7d, 0x53, 0x51}},
		{[]byte{}, []byte{0, 82, 125, 83, 81}},
		{[]byte{0}, join([]byte{1, 0}, bigEndian(crc32.Checksum([]byte{1, 0}, crc32.MakeTable(crc32.Castagnoli))))},
		{[]byte{255}, join([]byte{1, 255}, bigEndian(crc32.Checksum([]byte{1, 255}, crc32.MakeTable(crc32.Castagnoli))))},
	} {
		if got := checksum.Seal(x.b); !bytes.Equal(got, x.want) {
			t.Errorf("Seal(%v) is %v, not %v", x.b, got, x.want)
		}
	}
}

func TestSeal(t *testing.T) { // P4.3
	for _, b := range append(someContents(), mixed(16383, 1), mixed(16384, 2)) {
		if got, want := checksum.Seal(b), frame(b); !bytes.Equal(got, want) {
			t.Errorf("Seal(%.20v) of %d bytes is %.20v, not %.20v", b, len(b), got, want)
		}
	}
	for c := range 256 {
		b := []byte{byte(c)}
		if got, want := checksum.Seal(b), frame(b); !bytes.Equal(got, want) {
			t.Errorf("Seal(%v) is %v, not %v", b, got, want)
		}
	}
	for n, head := range map[int][]byte{0: {0}, 1: {1}, 127: {127}, 128: {128, 1}, 129: {129, 1}, 16383: {255, 127}, 16384: {128, 128, 1}} {
		b := mixed(n, n)
		got := checksum.Seal(b)
		if len(got) != len(head)+n+4 || !bytes.HasPrefix(got, join(head, b)) {
			t.Errorf("the frame of %d bytes has %d and begins with %.5v", n, len(got), got)
		}
	}
}

func TestOpenNamed(t *testing.T) { // P4.4
	empty := []byte{0, 82, 125, 83, 81}
	ab := frame([]byte("ab"))
	long := frame(mixed(128, 1))
	top := []byte("\x80\x80\x80\x80\x80\x80\x80\x80\x40")  // the length 2^62
	over := []byte("\x81\x80\x80\x80\x80\x80\x80\x80\x40") // one more
	for _, x := range []struct {
		b        []byte
		at, most int
		want     string
		next     int
		err      api.Errno
	}{
		{empty, 0, 0, "", 5, api.OK},
		{empty, 0, 1, "", 5, api.OK},
		{empty, 0, math.MaxInt, "", 5, api.OK},
		{ab, 0, 2, "ab", 7, api.OK},
		{ab, 0, math.MaxInt, "ab", 7, api.OK},
		{join([]byte{200, 3}, ab, []byte{9}), 2, 2, "ab", 9, api.OK},
		{join(empty, ab, empty), 5, 2, "ab", 12, api.OK},
		{join(empty, ab, empty), 12, 0, "", 17, api.OK},
		{long, 0, 128, string(mixed(128, 1)), 134, api.OK},
		// the index
		{empty, -1, 9, "", 0, api.ErrRange},
		{empty, math.MinInt, 9, "", 0, api.ErrRange},
		{empty, 6, 9, "", 0, api.ErrRange},
		{empty, math.MaxInt, 9, "", 0, api.ErrRange},
		{nil, -1, 9, "", 0, api.ErrRange},
		{nil, 1, 9, "", 0, api.ErrRange},
		{empty, -1, -1, "", 0, api.ErrRange},
		{make([]byte, 3, 9), 4, 9, "", 0, api.ErrRange},
		// no length
		{nil, 0, 9, "", 0, api.ErrShort},
		{empty, 5, 9, "", 0, api.ErrShort},
		{[]byte{128}, 0, 9, "", 0, api.ErrShort},
		{[]byte{128}, 0, -1, "", 0, api.ErrShort},
		{bytes.Repeat([]byte{200}, 20), 0, 9, "", 0, api.ErrShort},
		{nil, 0, -1, "", 0, api.ErrShort},
		// a length that varint does not read
		{[]byte{128, 0}, 0, 9, "", 0, api.ErrForm},
		{[]byte{128, 0, 82, 125, 83, 81}, 0, 9, "", 0, api.ErrForm},
		{[]byte{128, 0, 82, 125, 83, 81}, 0, -1, "", 0, api.ErrForm},
		{over, 0, math.MaxInt, "", 0, api.ErrLong},
		{over, 0, -1, "", 0, api.ErrLong},
		{[]byte("\x80\x80\x80\x80\x80\x80\x80\x80\x80\x01"), 0, math.MaxInt, "", 0, api.ErrLong},
		{[]byte("\x80\x80\x80\x80\x80\x80\x80\x80\x80\x00"), 0, math.MaxInt, "", 0, api.ErrLong},
		// a length greater than most, whatever follows
		{empty, 0, -1, "", 0, api.ErrLong},
		{empty, 0, math.MinInt, "", 0, api.ErrLong},
		{ab, 0, 1, "", 0, api.ErrLong},
		{ab, 0, 0, "", 0, api.ErrLong},
		{ab, 0, -1, "", 0, api.ErrLong},
		{long, 0, 127, "", 0, api.ErrLong},
		{[]byte{2}, 0, 1, "", 0, api.ErrLong},
		{[]byte{2, 97, 98, 0, 0, 0, 0}, 0, 1, "", 0, api.ErrLong},
		{[]byte{0, 82, 125, 83, 80}, 0, -1, "", 0, api.ErrLong},
		{top, 0, greatest - 1, "", 0, api.ErrLong},
		// a length greater than what follows
		{[]byte{0}, 0, 0, "", 0, api.ErrShort},
		{ab[:6], 0, 2, "", 0, api.ErrShort},
		{ab[:3], 0, 2, "", 0, api.ErrShort},
		{ab[:1], 0, 2, "", 0, api.ErrShort},
		{[]byte{200, 1}, 0, 200, "", 0, api.ErrShort},
		{top, 0, greatest, "", 0, api.ErrShort},
		{top, 0, math.MaxInt, "", 0, api.ErrShort},
		{join(empty, top, ab), 5, greatest, "", 0, api.ErrShort},
		{[]byte("\xff\xff\xff\xff\xff\xff\xff\xff\x3f\x00\x00\x00\x00"), 0, greatest, "", 0, api.ErrShort},
		{[]byte("\xfc\xff\xff\xff\xff\xff\xff\xff\x3f"), 0, greatest, "", 0, api.ErrShort},
		{[]byte("\xff\xff\xff\xff\x07abcdefg"), 0, greatest, "", 0, api.ErrShort},
		{[]byte("\xff\xff\xff\xff\x0fabcdefg"), 0, greatest, "", 0, api.ErrShort},
		{[]byte{2, 97, 98, 0, 0, 0}, 0, 2, "", 0, api.ErrShort},
		// another checksum
		{[]byte{0, 82, 125, 83, 80}, 0, 0, "", 0, api.ErrSum},
		{[]byte{0, 81, 83, 125, 82}, 0, 0, "", 0, api.ErrSum},
		{[]byte{0, 0, 0, 0, 0}, 0, 0, "", 0, api.ErrSum},
		{[]byte{0, 0, 0, 0, 0, 82, 125, 83, 81}, 0, 9, "", 0, api.ErrSum},
		{join([]byte{2, 97, 98}, bigEndian(sumOf([]byte("ab")))), 0, 9, "", 0, api.ErrSum},
	} {
		got, next, err := checksum.Open(x.b, x.at, x.most)
		if string(got) != x.want || next != x.next || err != x.err {
			t.Errorf("Open(%.20v, %d, %d) is %.20q, %d, %d, not %.20q, %d, %d", x.b, x.at, x.most, got, next, err, x.want, x.next, x.err)
		}
		checkOpen(t, x.b, x.at, x.most)
	}
}

// TestOpenEveryIndex opens frames and damaged frames at every index, with greatest lengths of all kinds.
func TestOpenEveryIndex(t *testing.T) { // P4.4
	var whole []byte
	for i, b := range someContents() {
		whole = append(whole, frame(b)...)
		if i%3 == 0 {
			whole = append(whole, xor(frame(b), len(b), []byte{1})...)
		}
		if i%4 == 0 {
			whole = append(whole, bytes.Repeat([]byte{255 - byte(i)}, i)...)
		}
	}
	for at := -2; at <= len(whole)+2; at++ {
		for _, most := range append(someMosts(4), 126, 127, 128, 255, 256) {
			checkOpen(t, whole, at, most)
		}
	}
}

// TestOpenShortBytes compares Open and All with what the chapter says for all short sequences of a few bytes, where most errors meet.
func TestOpenShortBytes(t *testing.T) { // P4.4, P4.5
	list := [][]byte{nil}
	for from := 0; len(list) < 60000; {
		to := len(list)
		for _, b := range list[from:to] {
			for _, c := range []byte{0, 1, 2, 82, 128, 130} {
				list = append(list, append(slices.Clone(b), c))
			}
		}
		from = to
	}
	for _, b := range list {
		for _, most := range []int{-1, 0, 1, 2, 9} {
			checkOpen(t, b, 0, most)
			checkOpen(t, b, len(b)-1, most)
			checkAll(t, b, most)
		}
	}
}

func TestOpenCutOff(t *testing.T) { // P4.4
	for _, b := range someContents() {
		whole := checksum.Seal(b)
		for end := range whole {
			cut := slices.Clone(whole[:end])
			checkError(t, cut, 0, len(b), api.ErrShort)
			checkError(t, join([]byte{0, 200}, cut), 2, len(b), api.ErrShort)
			checkError(t, whole[:end], 0, len(b), api.ErrShort) // the rest lies behind the end
			if list, n := checksum.All(cut, len(b)); len(list) != 0 || n != 0 {
				t.Fatalf("All of the first %d bytes of a frame of %d is %.20v, %d", end, len(whole), list, n)
			}
		}
	}
}

func TestOpenOfSeal(t *testing.T) { // P4.4, P4.7
	others := [][]byte{nil, {0}, {127}, {128}, {255, 255}, frame(nil), frame([]byte("x")), frame([]byte("abc"))[:4], bytes.Repeat([]byte{129}, 20)}
	for _, b := range append(someContents(), mixed(16384, 9)) {
		whole := checksum.Seal(b)
		for _, before := range others {
			for _, behind := range others {
				s := join(before, whole, behind)
				for _, most := range []int{len(b), len(b) + 1, greatest, math.MaxInt} {
					got, next, err := checksum.Open(s, len(before), most)
					if !bytes.Equal(got, b) || next != len(before)+len(whole) || err != api.OK {
						t.Fatalf("Open(%.20v, %d, %d) is %.20v, %d, %d", s, len(before), most, got, next, err)
					}
				}
				for _, most := range []int{len(b) - 1, -1, math.MinInt} {
					checkError(t, s, len(before), most, api.ErrLong)
				}
			}
		}
	}
}

// TestDamagedContent changes each byte of contents to each other one, and up to four consecutive bytes.
func TestDamagedContent(t *testing.T) { // P4.7
	for _, n := range []int{1, 2, 3, 4, 5, 8, 127, 128} {
		b := mixed(n, n)
		whole := checksum.Seal(b)
		first := len(whole) - 4 - n
		before, behind := frame([]byte("before")), frame([]byte("behind"))
		for i := range n {
			for mask := 1; mask < 256; mask++ {
				checkError(t, xor(whole, first+i, []byte{byte(mask)}), 0, n, api.ErrSum)
			}
		}
		for wide := 2; wide <= min(4, n); wide++ {
			for _, mask := range masks(wide) {
				for i := range n - wide + 1 {
					damaged := xor(whole, first+i, mask)
					checkError(t, damaged, 0, n, api.ErrSum)
					if i < 3 {
						checkError(t, join(before, damaged, behind), len(before), n, api.ErrSum)
					}
				}
			}
		}
	}
}

// TestDamagedSum changes each byte of a checksum to each other one, and several of them.
func TestDamagedSum(t *testing.T) { // P4.4, P4.7
	for _, b := range someContents() {
		whole := checksum.Seal(b)
		first := len(whole) - 4
		for i := range 4 {
			for mask := 1; mask < 256; mask++ {
				checkError(t, xor(whole, first+i, []byte{byte(mask)}), 0, len(b), api.ErrSum)
			}
		}
		for _, mask := range masks(4) {
			checkError(t, xor(whole, first, mask), 0, len(b), api.ErrSum)
			checkError(t, join([]byte{7}, xor(whole, first, mask), []byte{8}), 1, math.MaxInt, api.ErrSum)
		}
	}
}

func TestAllNamed(t *testing.T) { // P4.5
	one, empty, three := frame([]byte("one")), frame(nil), frame([]byte("three"))
	wrong := xor(three, 2, []byte{4})
	for _, x := range []struct {
		b    []byte
		most int
		want string
		end  int
	}{
		{nil, 9, "", 0},
		{[]byte{}, -1, "", 0},
		{[]byte{0}, 9, "", 0},
		{[]byte{128}, 9, "", 0},
		{[]byte{128, 0}, 9, "", 0},
		{one, 3, "one;", 8},
		{one, 2, "", 0},
		{one, 0, "", 0},
		{one, -1, "", 0},
		{one, math.MinInt, "", 0},
		{one, math.MaxInt, "one;", 8},
		{empty, 0, ";", 5},
		{empty, -1, "", 0},
		{empty[:4], 0, "", 0},
		{join(empty, empty, empty), 0, ";;;", 15},
		{join(one, empty, three), 5, "one;;three;", 23},
		{join(three, three, one), 5, "three;three;one;", 28},
		{join(one, empty, three, []byte{0}), 5, "one;;three;", 23},
		{join(one, empty, three, []byte{255}), 5, "one;;three;", 23},
		{join(one, empty, three, []byte{129, 0}), 5, "one;;three;", 23},
		// a frame longer than most
		{join(one, three, empty), 4, "one;", 8},
		{join(three, one, empty), 4, "", 0},
		{join(one, empty, three), 4, "one;;", 13},
		{join(empty, one), 0, ";", 5},
		// a damaged frame
		{join(wrong, one, empty), 9, "", 0},
		{join(one, wrong, empty), 9, "one;", 8},
		{join(one, empty, wrong), 9, "one;;", 13},
		{join(one, empty, wrong), 4, "one;;", 13},
		{join(one, []byte{0}, empty), 9, "one;", 8},
		{join(one, one[:7], one), 9, "one;", 8},
	} {
		got, end := checksum.All(x.b, x.most)
		var text strings.Builder
		for _, content := range got {
			text.Write(content)
			text.WriteByte(';')
		}
		if text.String() != x.want || end != x.end {
			t.Errorf("All(%v, %d) is %q, %d, not %q, %d", x.b, x.most, text.String(), end, x.want, x.end)
		}
		checkAll(t, x.b, x.most)
	}
}

// TestAllCutOff ends several frames at each place.
func TestAllCutOff(t *testing.T) { // P4.5, P4.8
	contents := someContents()
	var whole []byte
	var ends []int
	for _, b := range contents {
		whole = append(whole, checksum.Seal(b)...)
		ends = append(ends, len(whole))
	}
	for cut := range len(whole) + 1 {
		count, end := 0, 0
		for count < len(ends) && ends[count] <= cut {
			end = ends[count]
			count++
		}
		for _, b := range [][]byte{whole[:cut], slices.Clone(whole[:cut])} {
			if got, n := checksum.All(b, 256); !sameList(got, contents[:count]) || n != end {
				t.Fatalf("All of %d bytes is %d contents, %d, not %d, %d", cut, len(got), n, count, end)
			}
		}
	}
}

// TestAllDamaged damages one of several frames, or makes it longer than most.
func TestAllDamaged(t *testing.T) { // P4.5
	const count = 5
	for bad := range count {
		var damaged, long []byte
		var contents [][]byte
		end := 0
		for i := range count {
			content := mixed(i+1, i)
			next := checksum.Seal(content)
			if i < bad {
				contents = append(contents, content)
				end += len(next)
			}
			if i == bad {
				damaged = append(damaged, xor(next, 1, []byte{16})...)
				long = append(long, checksum.Seal(mixed(10, i))...)
				continue
			}
			damaged = append(damaged, next...)
			long = append(long, next...)
		}
		for _, b := range [][]byte{damaged, long} {
			if got, n := checksum.All(b, 9); !sameList(got, contents) || n != end {
				t.Errorf("All(%v, 9) is %v, %d, not %v, %d", b, got, n, contents, end)
			}
		}
		if got, n := checksum.All(long, 10); len(got) != count || n != len(long) {
			t.Errorf("All(%v, 10) is %v, %d", long, got, n)
		}
	}
}

func TestAllOfEveryMost(t *testing.T) { // P4.5
	for seed := range 30 {
		var whole []byte
		for i := range 6 {
			whole = append(whole, frame(mixed(int(mixed(9, seed)[i])%5, i))...)
		}
		for i := range whole {
			for most := -1; most <= 5; most++ {
				checkAll(t, whole[i:], most)
				checkAll(t, xor(whole, i, []byte{1}), most)
			}
		}
	}
}

// TestCapacity checks that what lies behind the end of an argument does not matter and stays as it is.
func TestCapacity(t *testing.T) { // P4.1 to P4.5
	whole := join(frame([]byte("ab")), frame(nil), frame([]byte("cde")), mixed(40, 3))
	was := slices.Clone(whole)
	for end := range len(whole) + 1 {
		b, alone := whole[:end], slices.Clip(slices.Clone(whole[:end]))
		if checksum.Sum(b) != checksum.Sum(alone) || checksum.Extend(5, b) != checksum.Extend(5, alone) {
			t.Fatalf("another checksum of %v", b)
		}
		if got := checksum.Seal(b); !bytes.Equal(got, frame(alone)) {
			t.Fatalf("Seal(%v) is %v", b, got)
		}
		got, n := checksum.All(b, 3)
		if want, wantN := all(alone, 3); !sameList(got, want) || n != wantN {
			t.Fatalf("All(%v, 3) is %v, %d", b, got, n)
		}
		for at := -1; at <= end+1; at++ {
			checkOpen(t, b, at, 3)
		}
		for _, content := range got {
			content = append(content, 1, 2, 3, 4, 5, 6, 7, 8)
			clear(content)
		}
		if !bytes.Equal(whole, was) {
			t.Fatalf("%v became %v", was, whole)
		}
	}
}

// TestResultsAreNew checks that arguments are not modified, and that results share no memory with them or with each other.
func TestResultsAreNew(t *testing.T) { // P4.1 to P4.5
	for _, b := range someContents() {
		b = append(make([]byte, 0, len(b)+20), b...)
		was := slices.Clone(b)
		checksum.Sum(b)
		checksum.Extend(9, b)
		first, second := checksum.Seal(b), checksum.Seal(b)
		for i := range first {
			first[i] ^= 255
		}
		if !bytes.Equal(b, was) || !bytes.Equal(second, frame(was)) {
			t.Fatalf("changing a frame of %.20v changed it to %.20v, or the other frame to %.20v", was, b, second)
		}
		whole := slices.Clone(second)
		content, _, _ := checksum.Open(whole, 0, len(b))
		clear(whole)
		if !bytes.Equal(content, was) {
			t.Fatalf("the opened %.20v became %.20v", was, content)
		}
		content, _, _ = checksum.Open(second, 0, len(b))
		clear(content)
		if !bytes.Equal(second, frame(was)) {
			t.Fatalf("changing what was opened changed the frame of %.20v", was)
		}
	}
	whole := join(frame([]byte("ab")), frame(nil), frame([]byte("cde")))
	was := slices.Clone(whole)
	contents, _ := checksum.All(whole, 3)
	for _, content := range contents {
		clear(append(content, 1, 2, 3))
		clear(content)
	}
	if !bytes.Equal(whole, was) {
		t.Errorf("changing the contents changed %v to %v", was, whole)
	}
	contents, _ = checksum.All(whole, 3)
	clear(whole)
	for i, want := range []string{"ab", "", "cde"} {
		contents[i] = append(contents[i], "xyz"...)
		if string(contents[i]) != want+"xyz" {
			t.Errorf("content %d became %q", i, contents[i])
		}
	}
}

// TestLarge checks a long content, and so many frames that time for each of them that grows with all bytes would be too long.
func TestLarge(t *testing.T) { // P4.3 to P4.5, P4.8
	const n = 1000000
	b := mixed(n, 11)
	whole := checksum.Seal(b)
	if got, next, err := checksum.Open(whole, 0, n); !bytes.Equal(got, b) || next != n+3+4 || err != api.OK {
		t.Errorf("Open is %d bytes, %d, %d", len(got), next, err)
	}
	checkError(t, whole, 0, n-1, api.ErrLong)
	checkError(t, whole[:len(whole)-1], 0, n, api.ErrShort)
	checkError(t, xor(whole, n/2, []byte{1}), 0, n, api.ErrSum)
	many := bytes.Repeat(frame([]byte("abc")), n/10)
	got, end := checksum.All(many, 3)
	if len(got) != n/10 || end != len(many) || string(got[n/10-1]) != "abc" {
		t.Errorf("All is %d contents, %d", len(got), end)
	}
}
