package state

import (
	"scribe/api"
	"scribe/array"
	"scribe/cell"
	"scribe/code"
	"scribe/num"
	"scribe/vm"
)

// The parts of a run.
const (
	endPart  = 2
	overPart = 3
)

// functionPart is that of function 0 among the parts of a program's shapes.
const functionPart = 3

// checker asks whether a state fits a program, call by call from the outermost one on.
type checker struct {
	vm.State
	program     *code.Program
	shapes      []code.Shape
	stack, keys int // how many things on the stack, and keys that are begun, have been looked at
	last        int // the number of the last array that was met
}

func isGood(s vm.State, p *code.Program, in []vm.File) bool {
	if s.Steps < 0 {
		return false
	}
	if s.Part == overPart {
		return isEnd(s)
	}
	if s.Part < 0 || s.Part > endPart || s.Status != 0 || s.Err != api.OK || !isWithin(s, in) {
		return false
	}
	c := checker{State: s, program: p, shapes: code.Shapes(p), last: len(p.Globals)}
	return c.globals() && c.calls() && c.arrays() && c.record() && c.rest()
}

// isEnd: is it one of a program that is over? Such a one has nothing any more but how it ended.
func isEnd(s vm.State) bool {
	if len(s.Stack)+len(s.Frames)+len(s.Keys)+len(s.Globals)+len(s.Arrays)+len(s.Opened) > 0 {
		return false
	}
	switch s.Err {
	case api.OK:
		return 0 <= s.Status && s.Status < 256
	case api.ErrRun, api.ErrSize, api.ErrDeep:
		return s.Status == 0
	}
	return false
}

// isWithin: does it say a place of the inputs, or their end?
func isWithin(s vm.State, in []vm.File) bool {
	switch {
	case s.File < 0 || s.File > len(in):
		return false
	case s.File == len(in):
		return s.At == 0
	}
	return 0 <= s.At && s.At <= len(in[s.File].Text)
}

// globals: are there those that the program names, arrays without a value?
func (c *checker) globals() bool {
	if len(c.Globals) != len(c.program.Globals) || len(c.program.Arrays) != len(c.Globals) {
		return false
	}
	for i, x := range c.Globals {
		if !cell.Good(x) || c.program.Arrays[i] && x.Kind != cell.None {
			return false
		}
	}
	return true
}

// calls: may the program be at this step, behind these calls, with these things on the stack?
func (c *checker) calls() bool {
	if len(c.Frames) > vm.MaxCalls {
		return false
	}
	part := c.Part
	for _, f := range c.Frames {
		at := f.Ret - 1
		if !c.met(at, part) || !c.call(f, c.program.Code[at], c.shapes[at]) {
			return false
		}
		part = functionPart + f.Fn
	}
	if !c.met(c.PC, part) {
		return false
	}
	s := c.shapes[c.PC]
	return c.lies(s.Stack, s.Iters) && c.stack == len(c.Stack) && c.keys == len(c.Keys)
}

// met: is this step one of this part?
func (c *checker) met(at, part int) bool {
	return 0 <= at && at < len(c.shapes) && c.shapes[at].Met && c.shapes[at].Part == part
}

// call: does a step with this shape call, and does this come of it?
func (c *checker) call(f vm.Frame, x code.Ins, s code.Shape) bool {
	if x.Op != code.Call || x.A != f.Fn {
		return false
	}
	return c.lies(s.Stack[:len(s.Stack)-x.B], s.Iters) && f.Base == c.stack && f.Iters == c.keys && c.locals(f, x.B)
}

// lies: do such things lie next on the stack, and are there so many keys more?
func (c *checker) lies(things string, iters int) bool {
	if len(c.Stack)-c.stack < len(things) || len(c.Keys)-c.keys < iters {
		return false
	}
	for i, thing := range []byte(things) {
		if !c.isThing(c.Stack[c.stack+i], thing == 'a') {
			return false
		}
	}
	c.stack += len(things)
	c.keys += iters
	return true
}

// isThing: is it an array that there is by now, or a value, as is asked?
func (c *checker) isThing(v vm.Val, array bool) bool {
	if !array {
		return v.Ref == 0 && cell.Good(v.C)
	}
	if v.C != (cell.Cell{}) || v.Ref < 1 || v.Ref > c.last {
		return false
	}
	return v.Ref > len(c.Globals) || c.program.Arrays[v.Ref-1]
}

// locals: are these the variables of a call of so many things? The arrays that it wasn't handed are its own.
func (c *checker) locals(f vm.Frame, given int) bool {
	arrays := c.program.Funcs[f.Fn].Arrays
	if len(f.Locals) != len(arrays) {
		return false
	}
	own := f.Own
	for i, v := range f.Locals {
		if arrays[i] && i >= given {
			c.last++
			if len(own) == 0 || own[0] != c.last || v.Ref != c.last {
				return false
			}
			own = own[1:]
		}
		if !c.isThing(v, arrays[i]) {
			return false
		}
	}
	return len(own) == 0
}

// arrays: is there each of them, and none besides?
func (c *checker) arrays() bool {
	count := c.last - len(c.Globals)
	for _, is := range c.program.Arrays {
		if is {
			count++
		}
	}
	if c.Last != c.last || len(c.Arrays) != count {
		return false
	}
	cells := 0
	for n, a := range c.Arrays {
		if a == nil || !c.isThing(vm.Val{Ref: n}, true) || !goodValues(a) {
			return false
		}
		cells += a.Len()
	}
	return cells <= vm.MaxCells
}

func goodValues(a *array.Array) bool {
	for _, x := range a.All() {
		if !cell.Good(x) {
			return false
		}
	}
	return true
}

// record: are the fields values, and not too many?
func (c *checker) record() bool {
	for _, x := range c.Record.Fields() {
		if !cell.Good(x) {
			return false
		}
	}
	return c.Record.Count() <= api.MaxField
}

// rest: what is left to be asked: where keys are gone through, the files' names, which rise, and numbers.
func (c *checker) rest() bool {
	for _, k := range c.Keys {
		if k.At < 0 || k.At > len(k.L) || len(k.L) > vm.MaxCells {
			return false
		}
	}
	for i := 1; i < len(c.Opened); i++ {
		if c.Opened[i-1] >= c.Opened[i] {
			return false
		}
	}
	return c.Hits >= 0 && -num.Most <= c.Srand && c.Srand <= num.Most
}
