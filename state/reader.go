package state

import (
	"math"

	"scribe/api"
	"scribe/array"
	"scribe/cell"
	"scribe/code"
	"scribe/pack"
	"scribe/vm"
)

// reader reads what a writer wrote. Whether a machine may have it is asked later.
type reader struct {
	*pack.Reader
	known []vm.Val // values that were read, but for those that are nothing
	wrong bool     // something was read that no writer writes
}

func newReader(t string) *reader {
	return &reader{Reader: pack.Read(t)}
}

// end: the first error; ErrForm, if bytes are left.
func (r *reader) end() api.Errno {
	e := r.Done()
	if e == api.OK && r.wrong {
		return api.ErrForm
	}
	return e
}

func (r *reader) state(p *code.Program) vm.State {
	var s vm.State
	r.Open()
	for _, n := range ints(&s) {
		*n = r.Int()
	}
	setOthers(&s, [3]int{r.Int(), r.Int(), r.Int()})
	s.Opened = r.texts()
	s.Globals = r.cells()
	text := r.Text(math.MaxInt)
	s.Record.Put(text, r.cells())
	s.Stack = r.values()
	makeArrays(&s, p)
	r.frames(&s)
	s.Keys = r.keys()
	r.arrays(s.Arrays)
	r.Close()
	return s
}

// makeArrays: the arrays of all, if the program isn't over.
func makeArrays(s *vm.State, p *code.Program) {
	s.Arrays = map[int]*array.Array{}
	if s.Part == overPart {
		return
	}
	s.Last = len(p.Globals)
	for i, is := range p.Arrays {
		if is {
			s.Arrays[i+1] = &array.Array{}
		}
	}
}

func (r *reader) texts() []string {
	var l []string
	r.Open()
	for r.More() {
		l = append(l, r.Text(math.MaxInt))
	}
	r.Close()
	return l
}

// values reads a row of them.
func (r *reader) values() []vm.Val {
	x := row{kinds: r.Text(math.MaxInt), numbers: r.Text(math.MaxInt), texts: r.texts()}
	var l []vm.Val
	for _, kind := range []byte(x.kinds) {
		l = append(l, r.value(&x, kind))
	}
	r.wrong = r.wrong || len(x.numbers)+len(x.texts) > 0
	return l
}

// value takes the next one of a row, which is of a kind.
func (r *reader) value(x *row, kind byte) vm.Val {
	if kind == aKnown {
		return r.knownValue(x)
	}
	v, ok := x.cut(kind)
	r.wrong = r.wrong || !ok
	if kind != cell.None {
		r.known = append(r.known, v)
	}
	return v
}

func (r *reader) knownValue(x *row) vm.Val {
	n, ok := x.cutNumber()
	if !ok || n < 0 || n >= len(r.known) {
		r.wrong = true
		return vm.Val{}
	}
	return r.known[n]
}

// cells reads values among which there are no arrays.
func (r *reader) cells() []cell.Cell {
	var l []cell.Cell
	for _, v := range r.values() {
		r.wrong = r.wrong || v.Ref != 0
		l = append(l, v.C)
	}
	return l
}

// frames reads the calls, and makes the arrays that they own: those behind the ones that were there.
func (r *reader) frames(s *vm.State) {
	r.Open()
	for r.More() {
		f := vm.Frame{Fn: r.Int(), Ret: r.Int(), Base: r.Int(), Iters: r.Int(), Locals: r.values()}
		for _, v := range f.Locals {
			if v.Ref > s.Last {
				s.Last++
				s.Arrays[s.Last] = &array.Array{}
				f.Own = append(f.Own, s.Last)
			}
		}
		s.Frames = append(s.Frames, f)
	}
	r.Close()
}

func (r *reader) keys() []vm.Keys {
	var l []vm.Keys
	r.Open()
	for r.More() {
		k := vm.Keys{At: r.Int()}
		switch same := r.Int(); {
		case same < 0:
			k.L = r.texts()
		case same < len(l):
			k.L = l[same].L
		default:
			r.wrong = true
		}
		l = append(l, k)
	}
	r.Close()
	return l
}

// arrays reads what arrays have that there are.
func (r *reader) arrays(m map[int]*array.Array) {
	r.Open()
	for r.More() {
		a := m[r.Int()]
		if a == nil || a.Len() > 0 {
			r.wrong = true
			a = &array.Array{}
		}
		r.array(a)
	}
	r.Close()
}

func (r *reader) array(a *array.Array) {
	keys, cells := r.texts(), r.cells()
	for i, key := range keys[:min(len(keys), len(cells))] {
		a.Set(key, cells[i])
	}
	r.wrong = r.wrong || len(keys) != len(cells) || a.Len() != len(keys)
}
