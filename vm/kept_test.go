package vm_test

import (
	"reflect"
	"testing"
	"unsafe"

	"scribe/api"
	"scribe/array"
	"scribe/cell"
	"scribe/code"
	"scribe/vm"
)

// spoil changes all of a program, and the room behind its lists.
func spoil(p *code.Program) {
	for i := range p.Code[:cap(p.Code)] {
		p.Code[:cap(p.Code)][i] = code.Ins{Op: -1}
	}
	for i := range p.Nums {
		p.Nums[i] = 77
	}
	for _, l := range [][]string{p.Strs, p.Globals} {
		for i := range l {
			l[i] = "spoilt"
		}
	}
	for i := range p.Arrays {
		p.Arrays[i] = !p.Arrays[i]
	}
	for i := range p.Funcs {
		for k := range p.Funcs[i].Arrays {
			p.Funcs[i].Arrays[k] = !p.Funcs[i].Arrays[k]
		}
		p.Funcs[i].Entry = -1
	}
	p.Begin, p.Record, p.End = -1, -1, -1
}

// P2: a machine keeps nothing of the program and of the inputs that it was handed, and changes neither (K3).
func TestNothingKept(t *testing.T) {
	for _, s := range samples() {
		whole, steps := played(t, s, sampleInput())
		p, in, out := program(t, s), sampleInput(), sheets{}
		m := vm.New(p, in, out.output())
		m.Run(steps / 2)
		if !reflect.DeepEqual(p, program(t, s)) || !reflect.DeepEqual(in, sampleInput()) {
			t.Errorf("%q: what was handed in is changed", s)
		}
		spoil(p)
		for i := range in {
			in[i] = vm.File{Name: "spoilt", Text: "spoilt"}
		}
		m.Run(enough)
		if got := end(t, m, out); !alike(got, whole) || m.Steps != steps {
			t.Errorf("%q: %v, want %v", s, got, whole)
		}
	}
}

// copied: a state of its own, by other means than Restore's.
func copied(s vm.State) vm.State {
	c := s
	c.Stack, c.Globals, c.Opened = append([]vm.Val(nil), s.Stack...), append([]cell.Cell(nil), s.Globals...), append([]string(nil), s.Opened...)
	c.Frames, c.Keys = nil, nil
	for _, f := range s.Frames {
		f.Locals, f.Own = append([]vm.Val(nil), f.Locals...), append([]int(nil), f.Own...)
		c.Frames = append(c.Frames, f)
	}
	for _, k := range s.Keys {
		c.Keys = append(c.Keys, vm.Keys{L: append([]string(nil), k.L...), At: k.At})
	}
	c.Arrays = map[int]*array.Array{}
	for n, a := range s.Arrays {
		c.Arrays[n] = &array.Array{}
		for key, x := range a.All() {
			c.Arrays[n].Set(key, x)
		}
	}
	c.Record.Put(s.Record.Text(), s.Record.Fields())
	return c
}

// same: are two states alike, key by key in order?
func same(a, b vm.State) bool {
	if len(a.Arrays) != len(b.Arrays) {
		return false
	}
	for n, x := range a.Arrays {
		y := b.Arrays[n]
		if y == nil || !reflect.DeepEqual(x.Keys(), y.Keys()) {
			return false
		}
		for key, c := range x.All() {
			if y.At(key) != c {
				return false
			}
		}
	}
	empty := func(s vm.State) vm.State {
		s.Arrays = nil
		s = copied(s)
		s.Arrays = nil
		return s
	}
	return reflect.DeepEqual(empty(a), empty(b))
}

// spoilState changes all that a state's lists and maps have.
func spoilState(s vm.State) {
	for i := range s.Stack {
		s.Stack[i] = vm.Val{C: cell.Text("spoilt")}
	}
	for i := range s.Globals {
		s.Globals[i] = cell.Text("spoilt")
	}
	for i := range s.Opened {
		s.Opened[i] = "spoilt"
	}
	for i, f := range s.Frames {
		for k := range f.Locals {
			f.Locals[k] = vm.Val{C: cell.Text("spoilt")}
		}
		for k := range f.Own {
			f.Own[k] = -1
		}
		s.Frames[i] = vm.Frame{}
	}
	for i, k := range s.Keys {
		for at := range k.L {
			k.L[at] = "spoilt"
		}
		s.Keys[i] = vm.Keys{}
	}
	for n, a := range s.Arrays {
		a.Clear()
		a.Set("spoilt", cell.Int(n))
	}
}

// P2: Restore copies deeply: the machine and the state that it was made of go on by themselves (K3).
func TestRestoreCopies(t *testing.T) {
	for _, s := range samples() {
		whole, steps := played(t, s, sampleInput())
		for at := 0; at <= steps; at += 1 + steps/60 {
			out, other := sheets{}, sheets{}
			m := machineOf(t, s, sampleInput(), out)
			m.Run(at)
			for name, text := range out {
				other[name] = text
			}
			was := copied(m.State)
			r := vm.Restore(program(t, s), sampleInput(), other.output(), m.State)
			if !same(r.State, was) || !same(m.State, was) {
				t.Fatalf("%q behind %d: another state", s, at)
			}
			r.Run(enough)
			if got := end(t, r, other); !alike(got, whole) || r.Steps != steps {
				t.Fatalf("%q behind %d: restored %v, want %v", s, at, got, whole)
			}
			if !same(m.State, was) {
				t.Fatalf("%q behind %d: the state is changed", s, at)
			}
			m.Run(enough)
			if got := end(t, m, out); !alike(got, whole) {
				t.Fatalf("%q behind %d: %v, want %v", s, at, got, whole)
			}
			// And with the state spoilt that it was made of.
			out = sheets{}
			m = machineOf(t, s, sampleInput(), out)
			m.Run(at)
			r = vm.Restore(program(t, s), sampleInput(), out.output(), m.State)
			spoilState(m.State)
			r.Run(enough)
			if got := end(t, r, out); !alike(got, whole) {
				t.Fatalf("%q behind %d: shared: %v, want %v", s, at, got, whole)
			}
		}
	}
}

// P2: what goes out shares no memory with what the machine has, nor with the inputs (K3).
func TestPrintedApart(t *testing.T) {
	in := files("abcdef\n")
	from := uintptr(unsafe.Pointer(unsafe.StringData(in[0].Text)))
	out := vm.Output{
		Begin: func(string) api.Errno { return api.OK },
		Append: func(name, text string) api.Errno {
			for _, s := range []string{name, text} {
				if at := uintptr(unsafe.Pointer(unsafe.StringData(s))); at >= from && at < from+uintptr(len(in[0].Text)) {
					t.Errorf("%q lies in the input", s)
				}
			}
			return api.OK
		},
	}
	m := vm.New(program(t, "BEGIN{ORS=\"\"} {print > $0;printf \"%s\",$1 > $1}"), in, out)
	m.Run(enough)
}

// P2: the same run is the same each time (K4).
func TestSameAgain(t *testing.T) {
	for _, s := range samples() {
		first, steps := played(t, s, sampleInput())
		for range 5 {
			if again, n := played(t, s, sampleInput()); !alike(first, again) || n != steps {
				t.Errorf("%q: %v, %v", s, first, again)
			}
		}
	}
}
