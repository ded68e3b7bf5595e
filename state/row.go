package state

import (
	"scribe/cell"
	"scribe/num"
	"scribe/vm"
)

// The kinds of values in a row, behind those of cells.
const (
	anArray = 4 // its number
	aWhole  = 5 // a number without places, as an int
	aKnown  = 6 // a value that came ahead of this one: its number
)

// row is values as they are written: a byte for the kind of each, and, all in a row, the numbers and the texts that these have.
type row struct {
	kinds, numbers string
	texts          []string
}

// builder makes a row.
type builder struct {
	kinds, numbers []byte
	texts          []string
}

func (b *builder) number(kind, n int) {
	b.kinds = append(b.kinds, byte(kind))
	b.numbers = addNumber(b.numbers, n)
}

func (b *builder) text(kind int, s string) {
	b.kinds = append(b.kinds, byte(kind))
	b.texts = append(b.texts, s)
}

// add puts a value behind the others, that has no number among those that came ahead of it.
func (b *builder) add(v vm.Val) {
	switch c := v.C; {
	case v == (vm.Val{}):
		b.kinds = append(b.kinds, cell.None)
	case v.Ref != 0:
		b.number(anArray, v.Ref)
	case c.Kind == cell.Num && c.N%num.One == 0:
		b.number(aWhole, c.N.Whole())
	case c.Kind == cell.Num:
		b.number(cell.Num, int(c.N))
	default:
		b.text(c.Kind, c.S)
	}
}

// cutNumber: the next number of a row; false: there is none.
func (x *row) cutNumber() (n int, ok bool) {
	n, x.numbers, ok = cutNumber(x.numbers)
	return n, ok
}

// cutText: the next text of a row; false: there is none.
func (x *row) cutText() (string, bool) {
	if len(x.texts) == 0 {
		return "", false
	}
	s := x.texts[0]
	x.texts = x.texts[1:]
	return s, true
}

// cut: the next value, which is of a kind; false: there is none.
func (x *row) cut(kind byte) (vm.Val, bool) {
	switch kind {
	case cell.None:
		return vm.Val{}, true
	case cell.Num:
		n, ok := x.cutNumber()
		return vm.Val{C: cell.Of(num.Num(n))}, ok
	case aWhole:
		n, ok := x.cutNumber()
		return vm.Val{C: cell.Int(n)}, ok
	case anArray:
		n, ok := x.cutNumber()
		return vm.Val{Ref: n}, ok
	case cell.Str:
		s, ok := x.cutText()
		return vm.Val{C: cell.Text(s)}, ok
	case cell.Both:
		s, ok := x.cutText()
		return vm.Val{C: cell.Input(s)}, ok
	}
	return vm.Val{}, false
}

// addNumber puts a number behind bytes, in as few of them as say it: seven bits each, the lowest ones first; all but the last one are above 127. The lowest bit says that it is below 0: the others say all less one.
func addNumber(b []byte, n int) []byte {
	u := uint64(n)<<1 ^ uint64(n>>63)
	for u > 127 {
		b = append(b, byte(u)|128)
		u >>= 7
	}
	return append(b, byte(u))
}

// cutNumber: the number that bytes begin with, and those behind it; false: they begin with none.
func cutNumber(s string) (int, string, bool) {
	u := uint64(0)
	for i := range len(s) {
		u |= uint64(s[i]&127) << (7 * i)
		if s[i] < 128 {
			return int(u>>1) ^ -int(u&1), s[i+1:], true
		}
	}
	return 0, "", false
}
