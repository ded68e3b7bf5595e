package vm

import (
	"scribe/api"
	"scribe/cell"
	"scribe/match"
	"scribe/num"
)

// The ways to make one value of two, behind those that reckon.
const (
	catWay = 5 + iota
	lessWay
	lessEqualWay
	equalWay
	notEqualWay
	greaterWay
)

// binary makes one value of two.
func (m *Machine) binary(way int) api.Errno {
	l := m.take(2)
	a, b := l[0].C, l[1].C
	switch {
	case way < catWay:
		n, e := reckon(way, a.Num(), b.Num())
		m.push(cell.Of(n))
		return e
	case way == catWay:
		return m.made(a.Str() + b.Str())
	}
	m.push(cell.Bool(holds(way, cell.Compare(a, b))))
	return api.OK
}

// holds: is it so, if values compare like this?
func holds(way, compared int) bool {
	switch way {
	case lessWay:
		return compared < 0
	case lessEqualWay:
		return compared <= 0
	case equalWay:
		return compared == 0
	case notEqualWay:
		return compared != 0
	case greaterWay:
		return compared > 0
	}
	return compared >= 0
}

// unary makes another value of one: not, neg, plus.
func (m *Machine) unary(way int) {
	c := m.pop()
	switch way {
	case 0:
		m.push(cell.Bool(!c.True()))
	case 1:
		m.push(cell.Of(num.Sub(0, c.Num())))
	default:
		m.push(cell.Of(c.Num()))
	}
}

// match asks whether a text has a pattern, or (turned) hasn't.
func (m *Machine) match(turned bool) api.Errno {
	l := m.take(2)
	p, e := pattern(l[1].C)
	if e != api.OK {
		return e
	}
	m.push(cell.Bool(p.In(l[0].C.Str()) != turned))
	return api.OK
}

// pattern: the one that a value's text is.
func pattern(c cell.Cell) (*match.Prog, api.Errno) {
	p, _, e := match.Of(c.Str())
	if e != api.OK {
		return nil, api.ErrRun
	}
	return p, api.OK
}
