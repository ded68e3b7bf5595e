package code

import "scribe/num"

// The parts of a program; a function is one, too.
const (
	beginPart = iota
	recordPart
	endPart
	functionPart // that of function 0
)

// walk goes through a program from all places where it may begin, step by step to all that each leads to.
type walk struct {
	*Program
	shapes []Shape
	todo   []int // steps that were met, and aren't gone on from yet
}

// walkThrough: what is known of a program's steps; false: no machine may go through it.
func walkThrough(p *Program) ([]Shape, bool) {
	if len(p.Code) > MaxCode || !goodNames(p) || !goodNums(p) {
		return nil, false
	}
	w := walk{Program: p, shapes: make([]Shape, len(p.Code))}
	return w.shapes, w.begin() && w.goOn()
}

// goodNames: are the special names where they belong, and single values'?
func goodNames(p *Program) bool {
	if len(p.Globals) != len(p.Arrays) || len(p.Globals) < len(special) {
		return false
	}
	for i, name := range special {
		if p.Globals[i] != name || p.Arrays[i] {
			return false
		}
	}
	return true
}

func goodNums(p *Program) bool {
	for _, n := range p.Nums {
		if n < -num.Most || n > num.Most {
			return false
		}
	}
	return true
}

// begin meets the first steps.
func (w *walk) begin() bool {
	for part, first := range [...]int{beginPart: w.Begin, recordPart: w.Record, endPart: w.End} {
		if !w.meet(first, Shape{Met: true, Part: part}) {
			return false
		}
	}
	for i, f := range w.Funcs {
		if !w.meet(f.Entry, Shape{Met: true, Part: functionPart + i}) {
			return false
		}
	}
	return true
}

// goOn goes on from all steps that are met.
func (w *walk) goOn() bool {
	for len(w.todo) > 0 {
		last := len(w.todo) - 1
		at := w.todo[last]
		w.todo = w.todo[:last]
		if !w.step(at) {
			return false
		}
	}
	return true
}

// meet: is there a step, and may it be met like this?
func (w *walk) meet(at int, s Shape) bool {
	if !within(at, len(w.Code)) || len(s.Stack) > MaxStack || s.Iters > MaxStack {
		return false
	}
	if w.shapes[at].Met {
		return w.shapes[at] == s
	}
	w.shapes[at] = s
	w.todo = append(w.todo, at)
	return true
}

// step: may a step be done as it was met, and all be met that it leads to?
func (w *walk) step(at int) bool {
	x, s := w.Code[at], w.shapes[at]
	if !w.isSaid(x, s.Part) || !w.finds(x, s) {
		return false
	}
	s.Stack = s.Stack[:len(s.Stack)-takes(x)] + leaves(x.Op)
	switch x.Op {
	case Iter:
		s.Iters++
	case Drop:
		s.Iters--
	case Return, Next, Exit, Stop:
		return true
	case Jump:
		return w.meet(x.A, s)
	case JumpIf, JumpNot:
		return w.meet(x.A, s) && w.meet(at+1, s)
	case Step:
		if !w.meet(x.A, s) {
			return false
		}
		s.Stack += "v" // the key
	}
	return w.meet(at+1, s)
}
