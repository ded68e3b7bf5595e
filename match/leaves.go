package match

import (
	"iter"
	"math/bits"
)

// leaves is a set of them: leaf i is bit i modulo 64 of word i / 64. Sets that are put together have as many words.
type leaves []uint64

func (l leaves) add(leaf int) {
	l[leaf/64] |= 1 << (leaf % 64)
}

// join adds those of another set.
func (l leaves) join(m leaves) {
	for i, word := range m {
		l[i] |= word
	}
}

// all: the numbers of those in it.
func (l leaves) all() iter.Seq[int] {
	return func(yield func(int) bool) {
		for i, word := range l {
			for ; word != 0; word &= word - 1 {
				if !yield(i*64 + bits.TrailingZeros64(word)) {
					return
				}
			}
		}
	}
}

// joinRows adds those of a table's rows, one row for each leaf of another set.
func (l leaves) joinRows(t table, m leaves) {
	for leaf := range m.all() {
		l.join(t.row(leaf))
	}
}

// keep takes out what isn't in another set.
func (l leaves) keep(m leaves) {
	for i, word := range m {
		l[i] &= word
	}
}

// meet: is one of them in another set?
func (l leaves) meet(m leaves) bool {
	for i, word := range m {
		if l[i]&word != 0 {
			return true
		}
	}
	return false
}

// none: are there none?
func (l leaves) none() bool {
	return !l.meet(l)
}

// table is rows of sets, all of so many words.
type table struct {
	words int
	bits  []uint64
}

func newTable(rows, words int) table {
	return table{words: words, bits: make([]uint64, rows*words)}
}

// row: one of them; what is done to it is done in the table.
func (t table) row(i int) leaves {
	return t.bits[i*t.words : (i+1)*t.words]
}
