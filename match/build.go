package match

import (
	"scribe/regex"
)

// spots is how many kinds of places a text has: the beginning is one, the end another, a place may be both or neither.
const spots = 4

const (
	inside  = 0
	atBegin = 1
	atEnd   = 2
)

// spot: of which kind is a place of a text of so many bytes?
func spot(at, size int) int {
	s := inside
	if at == 0 {
		s |= atBegin
	}
	if at == size {
		s |= atEnd
	}
	return s
}

// piece is a part of a tree, as it looks from outside.
type piece struct {
	empty [spots]bool // is it met by nothing, at such a place?
	first table       // by the kind of the place ahead: the leaves that may take its first byte
	last  table       // by the kind of the place behind: the leaves that may take its last byte
}

// builder makes a Prog of a tree.
type builder struct {
	*Prog
	leaf int // the number of the next one
}

func newBuilder(leaves int) *builder {
	words := (leaves + 63) / 64
	return &builder{Prog: &Prog{
		words:  words,
		taking: newTable(256, words),
		ahead:  newTable(leaves, words),
		behind: newTable(leaves, words),
	}}
}

// tally is how many nodes a tree has, and how many of them take a byte.
type tally struct {
	nodes, leaves int
}

// count goes no further than it needs to see that there are too many.
func (t *tally) count(n regex.Node) {
	t.nodes++
	if n.Op == regex.One {
		t.leaves++
	}
	for _, kid := range n.Kids {
		if t.nodes > MaxStates {
			return
		}
		t.count(kid)
	}
}

// piece: that of a tree; its leaves are known from then on, and which of them may stand behind which.
func (b *builder) piece(n regex.Node) piece {
	switch n.Op {
	case regex.One:
		return b.one(n.Set)
	case regex.Alt:
		return b.alt(n.Kids)
	case regex.Begin:
		return b.nothing([spots]bool{atBegin: true, atBegin | atEnd: true})
	case regex.End:
		return b.nothing([spots]bool{atEnd: true, atBegin | atEnd: true})
	}
	p := b.cat(n.Kids)
	switch n.Op {
	case regex.Star:
		b.link(p, p)
		p.empty = everywhere()
	case regex.Plus:
		b.link(p, p)
	case regex.Opt:
		p.empty = everywhere()
	}
	return p
}

func everywhere() [spots]bool {
	return [spots]bool{true, true, true, true}
}

// nothing: what takes no byte, and is met at such places.
func (b *builder) nothing(empty [spots]bool) piece {
	return piece{empty: empty, first: newTable(spots, b.words), last: newTable(spots, b.words)}
}

// one: what takes one byte of a set.
func (b *builder) one(s regex.Set) piece {
	p := b.nothing([spots]bool{})
	for i := range spots {
		p.first.row(i).add(b.leaf)
		p.last.row(i).add(b.leaf)
	}
	for c := range 256 {
		if s.Has(byte(c)) {
			b.taking.row(c).add(b.leaf)
		}
	}
	b.leaf++
	return p
}

// alt: one of them.
func (b *builder) alt(kids []regex.Node) piece {
	p := b.nothing([spots]bool{})
	for _, kid := range kids {
		k := b.piece(kid)
		for i := range spots {
			p.empty[i] = p.empty[i] || k.empty[i]
			p.first.row(i).join(k.first.row(i))
			p.last.row(i).join(k.last.row(i))
		}
	}
	return p
}

// cat: one behind the other.
func (b *builder) cat(kids []regex.Node) piece {
	p := b.nothing(everywhere())
	for _, kid := range kids {
		k := b.piece(kid)
		b.link(p, k)
		for i := range spots {
			if p.empty[i] {
				p.first.row(i).join(k.first.row(i))
			}
			if k.empty[i] {
				k.last.row(i).join(p.last.row(i))
			}
			p.empty[i] = p.empty[i] && k.empty[i]
		}
		p.last = k.last
	}
	return p
}

// link: the second piece may stand behind the first one. Between two bytes a text neither begins nor ends.
func (b *builder) link(p, q piece) {
	last, first := p.last.row(inside), q.first.row(inside)
	for leaf := range last.all() {
		b.behind.row(leaf).join(first)
	}
	for leaf := range first.all() {
		b.ahead.row(leaf).join(last)
	}
}
