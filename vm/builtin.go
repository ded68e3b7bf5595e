package vm

import (
	"strconv"
	"strings"

	"scribe/api"
	"scribe/cell"
	"scribe/input"
	"scribe/num"
)

// The functions of the language.
const (
	lengthOf = iota
	substr
	index
	split
	matchOf
	toLower
	toUpper
	whole
	sprintf
	random
	seed
)

// splitByPattern says of split that its pattern stood between slashes; it takes three things all the same.
const splitByPattern = 4

// builtin does one of the functions of the language, with so many values.
func (m *Machine) builtin(function, count int) api.Errno {
	switch function {
	case split:
		return m.split(count)
	case sprintf:
		s, e := formatted(cells(m.take(count)))
		m.push(cell.Text(s))
		return e
	case random:
		m.push(cell.Of(m.random()))
		return api.OK
	}
	l := cells(m.take(count))
	switch function {
	case lengthOf:
		m.push(cell.Int(len(l[0].Str())))
	case substr:
		return m.made(piece(l))
	case index:
		m.push(cell.Int(1 + strings.Index(l[0].Str(), l[1].Str())))
	case matchOf:
		return m.find(l[0].Str(), l[1])
	case toLower:
		return m.made(turned(l[0].Str(), 'A', 'a'))
	case toUpper:
		return m.made(turned(l[0].Str(), 'a', 'A'))
	case whole:
		m.push(cell.Int(l[0].Num().Whole()))
	case seed:
		m.push(cell.Of(m.Srand))
		m.Srand = l[0].Num()
		m.Seed = uint64(m.Srand)
	}
	return api.OK
}

// piece: the bytes of a text from a place on, perhaps only so many of them, as far as there are.
func piece(l []cell.Cell) string {
	s := l[0].Str()
	from := l[1].Num().Whole()
	end := len(s) + 1
	if len(l) > 2 {
		end = min(end, from+l[2].Num().Whole())
	}
	from = max(from, 1)
	if from >= end {
		return ""
	}
	return s[from-1 : end-1]
}

// turned: a text with each of the letters from one on in the place of its counterpart, of those from the other one on.
func turned(s string, from, to byte) string {
	b := []byte(s)
	for i, c := range b {
		if from <= c && c < from+26 {
			b[i] = c - from + to
		}
	}
	return string(b)
}

// split lays the fields of a text in an array, which has nothing else from then on.
func (m *Machine) split(count int) api.Errno {
	sep := m.text(fs)
	if count > 2 {
		sep = m.pop().Str()
	}
	l := m.take(2)
	fields, e := input.Split(l[0].C.Str(), sep, count == splitByPattern)
	if e != api.OK {
		return e
	}
	a := m.Arrays[l[1].Ref]
	m.clear(a)
	for i, s := range fields {
		x := element{a, strconv.Itoa(i + 1)}
		if e := x.lay(m, cell.Input(s)); e != api.OK {
			return e
		}
	}
	m.push(cell.Int(len(fields)))
	return api.OK
}

// find looks for a pattern in a text, and tells where it is met.
func (m *Machine) find(s string, c cell.Cell) api.Errno {
	p, e := pattern(c)
	if e != api.OK {
		return e
	}
	at, length := 0, -1
	if from, to, ok := p.Find(s, 0); ok {
		at, length = from+1, to-from
	}
	m.Globals[rstart], m.Globals[rlength] = cell.Int(at), cell.Int(length)
	m.push(cell.Int(at))
	return api.OK
}

// random: the next one of the numbers that look like chance.
func (m *Machine) random() num.Num {
	m.Seed = m.Seed*6364136223846793005 + 1442695040888963407
	return num.Num((m.Seed >> 33) % uint64(num.One))
}
