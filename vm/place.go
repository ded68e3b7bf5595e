package vm

import (
	"scribe/api"
	"scribe/array"
	"scribe/cell"
	"scribe/code"
	"scribe/num"
)

// The language's own variables, the first ones of all.
const (
	nr = iota
	nf
	fs
	ofs
	ors
	filename
	rstart
	rlength
)

// The ways to lay something, beside those that reckon with what was there.
const (
	plain   = 0
	preInc  = 6
	preDec  = 7
	postInc = 8
	postDec = 9
)

// place is what something is laid in.
type place interface {
	read(m *Machine) (cell.Cell, api.Errno)
	lay(m *Machine, c cell.Cell) api.Errno
}

// variable is one of all (of is 0), or of the function that is gone through.
type variable struct {
	at, of int
}

// field is the number of one.
type field int

// element is a key of an array.
type element struct {
	a   *array.Array
	key string
}

// placeOf: the one that a step reads or lays in. What says where it is lies uppermost.
func (m *Machine) placeOf(x code.Ins) place {
	switch x.Op {
	case code.Get:
		return variable{x.A, x.B}
	case code.Set:
		return variable{x.A, x.B % 2}
	case code.Elem:
		return element{m.array(x.A, x.B), m.pop().Str()}
	case code.SetElem:
		return element{m.array(x.A, x.B%2), m.pop().Str()}
	}
	return field(m.pop().Num().Whole())
}

// read pushes what a place has.
func (m *Machine) read(p place) api.Errno {
	c, e := p.read(m)
	m.push(c)
	return e
}

// lay lays something in a place, and pushes what that is as a value.
func (m *Machine) lay(x code.Ins) api.Errno {
	how := x.B / 2
	if x.Op == code.SetField {
		how = x.B
	}
	if how == plain {
		c := m.pop()
		p := m.placeOf(x)
		m.push(c)
		return p.lay(m, c)
	}
	with := num.One
	if how < preInc {
		with = m.pop().Num()
	}
	return m.change(m.placeOf(x), how, with)
}

// change lays what a place has with a number added to it, taken from it, and so on.
func (m *Machine) change(p place, how int, with num.Num) api.Errno {
	c, e := p.read(m)
	if e != api.OK {
		return e
	}
	was := c.Num()
	now, e := reckon(reckoning(how), was, with)
	if e != api.OK {
		return e
	}
	if how == postInc || how == postDec {
		m.push(cell.Of(was))
	} else {
		m.push(cell.Of(now))
	}
	return p.lay(m, cell.Of(now))
}

// reckoning: by which way to reckon something is laid in this way.
func reckoning(how int) int {
	switch how {
	case preInc, postInc:
		return 0
	case preDec, postDec:
		return 1
	}
	return how - 1
}

// text: that of one of the language's own variables.
func (m *Machine) text(at int) string {
	return m.Globals[at].Str()
}

// frame: the call that is gone through.
func (m *Machine) frame() *Frame {
	return &m.Frames[len(m.Frames)-1]
}

func (v variable) read(m *Machine) (cell.Cell, api.Errno) {
	switch {
	case v.of == 1:
		return m.frame().Locals[v.at].C, api.OK
	case v.at == nf:
		return cell.Int(m.Record.Count()), api.OK
	}
	return m.Globals[v.at], api.OK
}

func (v variable) lay(m *Machine, c cell.Cell) api.Errno {
	switch {
	case v.of == 1:
		m.frame().Locals[v.at].C = c
	case v.at == nf:
		return m.Record.Resize(c.Num().Whole(), m.text(ofs))
	default:
		m.Globals[v.at] = c
	}
	return api.OK
}

func (f field) read(m *Machine) (cell.Cell, api.Errno) {
	return m.Record.Get(int(f))
}

func (f field) lay(m *Machine, c cell.Cell) api.Errno {
	if f == 0 {
		return m.load(c.Str())
	}
	return m.Record.Set(int(f), c, m.text(fs), m.text(ofs))
}

func (x element) read(m *Machine) (cell.Cell, api.Errno) {
	if e := m.come(x.a, x.key); e != api.OK {
		return cell.Cell{}, e
	}
	return x.a.At(x.key), api.OK
}

func (x element) lay(m *Machine, c cell.Cell) api.Errno {
	if e := m.come(x.a, x.key); e != api.OK {
		return e
	}
	x.a.Set(x.key, c)
	return api.OK
}
