package regexec

import (
	"cmp"
	"math/bits"
	"slices"
)

const (
	wordBits = 64
	rowWords = 4
	rowBits  = rowWords * wordBits
)

// row tells which of the rowBits offsets from number*rowBits on are in a set.
type row struct {
	number int
	bits   [rowWords]uint64
}

// offsets is a set of offsets: rows with increasing numbers, none of them without an offset. So a set of a few offsets is small wherever they lie, and one of very many is not large either.
type offsets struct{ rows []row }

func only(offset int) offsets {
	var l offsets
	l.put(offset)
	return l
}

// upTo returns the set of the offsets from 0 to last.
func upTo(last int) offsets {
	var l offsets
	for offset := range last + 1 {
		l.put(offset)
	}
	return l
}

func (l *offsets) empty() bool { return len(l.rows) == 0 }

// put adds an offset that is greater than all others in the set.
func (l *offsets) put(offset int) {
	number := offset / rowBits
	if l.empty() || l.rows[len(l.rows)-1].number != number {
		l.rows = append(l.rows, row{number: number})
	}
	l.rows[len(l.rows)-1].bits[offset%rowBits/wordBits] |= 1 << (offset % wordBits)
}

// add adds the offsets of another set and returns those of them that were not in the set before.
func (l *offsets) add(more offsets) offsets {
	byNumber := func(r row, number int) int { return cmp.Compare(r.number, number) }
	var fresh offsets
	for _, r := range more.rows {
		at, found := slices.BinarySearchFunc(l.rows, r.number, byNumber)
		if !found {
			l.rows = slices.Insert(l.rows, at, row{number: r.number})
		}
		if added := l.rows[at].add(r); added.bits != [rowWords]uint64{} {
			fresh.rows = append(fresh.rows, added)
		}
	}
	return fresh
}

// add adds the offsets of another row with the same number and returns those of them that were not in the row before.
func (r *row) add(more row) row {
	for i := range more.bits {
		had := r.bits[i]
		r.bits[i] |= more.bits[i]
		more.bits[i] &^= had
	}
	return more
}

// each calls yield with the offsets in increasing order, until it returns false.
func (l offsets) each(yield func(offset int) bool) {
	for _, r := range l.rows {
		for i, word := range r.bits {
			for ; word != 0; word &= word - 1 {
				if !yield(r.number*rowBits + i*wordBits + bits.TrailingZeros64(word)) {
					return
				}
			}
		}
	}
}
