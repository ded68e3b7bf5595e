package state_test

import (
	"math"
	"strconv"
	"testing"

	"scribe/api"
	"scribe/array"
	"scribe/cell"
	"scribe/num"
	"scribe/state"
	"scribe/vm"
)

// badCells are none.
func badCells() []cell.Cell {
	return []cell.Cell{{Kind: -1}, {Kind: 4}, {N: 1}, {S: "x"}, {Kind: cell.Num, N: math.MinInt64}, {Kind: cell.Num, N: num.Most + 1}, {Kind: cell.Num, S: "x"}, {Kind: cell.Str, N: 1}, {Kind: cell.Both, S: "x"}, {Kind: cell.Both, N: 2, S: "1"}}
}

// change is a state with one of its parts changed; must says that Good refuses it.
type change struct {
	text string
	must bool
	s    vm.State
}

// numbers: changes of each number of a state.
func numbers(s vm.State) []change {
	var l []change
	for i, was := range []int{s.Part, s.PC, s.File, s.At, s.Hits, s.Status, s.Steps, s.Last, int(s.Err)} {
		for _, n := range []int{math.MinInt, -1, 0, 1, 2, 3, 4, was - 1, was + 1, was + 2, 255, 256, 16, 15, 14, 13, 1000000, math.MaxInt} {
			c := s
			var e int
			*[]*int{&c.Part, &c.PC, &c.File, &c.At, &c.Hits, &c.Status, &c.Steps, &c.Last, &e}[i] = n
			if i == 8 {
				c.Err = api.Errno(n)
			}
			must := n != was && (n < 0 && i != 5 && i != 8 || i == 0 && n > 3 || i == 1 && n > 100000 && s.Part != 3 || i == 2 && n > 100000 && s.Part != 3 || i == 3 && n > 100000 && s.Part != 3 || i == 7 && s.Part != 3 || i == 5 && (n < 0 || n > 255 || s.Part != 3 || s.Err != api.OK) || i == 8 && (s.Part != 3 || n < 0 || n > 16))
			if s.Part == 3 && i > 0 && i < 5 || s.Part == 3 && i == 7 {
				must = false
			}
			l = append(l, change{"number " + strconv.Itoa(i) + " is " + strconv.Itoa(n), must, c})
		}
	}
	for _, n := range []num.Num{math.MinInt64, -num.Most - 1, -num.Most, 0, num.Most, num.Most + 1} {
		c := s
		c.Srand = n
		l = append(l, change{"the seed that was given", s.Part != 3 && (n < -num.Most || n > num.Most), c})
	}
	return l
}

// changedLists: a list with each of its things changed, and with fewer and more of them.
func changedLists[T any](l []T, others ...T) [][]T {
	var out [][]T
	own := func() []T { return append([]T(nil), l...) }
	for i := range l {
		out = append(out, append(own()[:i], l[i+1:]...))
		for _, x := range others {
			c := own()
			c[i] = x
			out = append(out, c)
		}
	}
	for _, x := range others {
		out = append(out, append(own(), x), append([]T{x}, own()...))
	}
	return out
}

// lists: changes of each list of a state.
func lists(s vm.State) []change {
	var l []change
	add := func(text string, must bool, change1 func(c *vm.State)) {
		c := s
		change1(&c)
		l = append(l, change{text, must && s.Part != 3, c})
	}
	vals := []vm.Val{{}, {Ref: 1}, {Ref: 9}, {Ref: s.Last}, {Ref: s.Last + 1}, {Ref: -1}, {Ref: math.MaxInt}, {C: cell.Int(1)}, {C: cell.Int(1), Ref: 9}, {C: cell.Cell{Kind: 9}}}
	for _, x := range changedLists(s.Stack, vals...) {
		add("the stack", len(x) != len(s.Stack), func(c *vm.State) { c.Stack = x })
	}
	for _, x := range changedLists(s.Globals, append(badCells(), cell.Cell{}, cell.Int(5), cell.Text("x"))...) {
		add("the variables", len(x) != len(s.Globals), func(c *vm.State) { c.Globals = x })
	}
	for _, x := range changedLists(s.Opened, "", "a", "stdout", "zz") {
		add("the files", false, func(c *vm.State) { c.Opened = x })
	}
	for _, x := range changedLists(s.Keys, vm.Keys{}, vm.Keys{At: -1}, vm.Keys{At: 1}, vm.Keys{L: []string{"a", "a"}, At: 2}, vm.Keys{L: make([]string, 5000)}) {
		add("the keys", len(x) != len(s.Keys), func(c *vm.State) { c.Keys = x })
	}
	for _, x := range append(badCells(), cell.Int(3)) {
		add("the record", x != cell.Int(3), func(c *vm.State) { c.Record.Put("x", []cell.Cell{cell.Int(1), x}) })
	}
	add("the record", true, func(c *vm.State) { c.Record.Put("x", make([]cell.Cell, 501)) })
	add("the record", false, func(c *vm.State) { c.Record.Put("y", make([]cell.Cell, 500)) })
	return append(l, frames(s)...)
}

// frames: changes of each part of each call of a state.
func frames(s vm.State) []change {
	var l []change
	add := func(text string, must bool, x []vm.Frame) {
		c := s
		c.Frames = x
		l = append(l, change{text, must, c})
	}
	for _, x := range changedLists(s.Frames, vm.Frame{}, vm.Frame{Fn: -1, Ret: -1, Base: -1, Iters: -1}, vm.Frame{Ret: math.MaxInt}, vm.Frame{Ret: math.MinInt}) {
		add("the calls", false, x)
	}
	for i, f := range s.Frames {
		one := func(text string, must bool, change1 func(f *vm.Frame)) {
			x := append([]vm.Frame(nil), s.Frames...)
			change1(&x[i])
			add(text, must, x)
		}
		for _, n := range []int{math.MinInt, -1, 0, 1, 2, 3, 10, 1000000, math.MaxInt} {
			one("a function", n != f.Fn, func(f *vm.Frame) { f.Fn = n })
			one("a place to go on", n < 0 || n > 100000, func(f *vm.Frame) { f.Ret = n })
			one("a base", n != f.Base, func(f *vm.Frame) { f.Base = n })
			one("a count of keys", n != f.Iters, func(f *vm.Frame) { f.Iters = n })
		}
		for _, n := range []int{f.Ret - 1, f.Ret + 1, f.Ret + 2} {
			one("a place to go on", false, func(f *vm.Frame) { f.Ret = n })
		}
		vals := []vm.Val{{}, {Ref: 1}, {Ref: 9}, {Ref: s.Last}, {Ref: s.Last + 1}, {Ref: -1}, {C: cell.Int(1)}, {C: cell.Int(1), Ref: 9}, {C: cell.Cell{Kind: 9}}}
		for _, v := range changedLists(f.Locals, vals...) {
			one("its variables", len(v) != len(f.Locals), func(f *vm.Frame) { f.Locals = v })
		}
		for _, v := range changedLists(f.Own, -1, 0, 1, 9, s.Last, s.Last+1) {
			one("its arrays", len(v) != len(f.Own), func(f *vm.Frame) { f.Own = v })
		}
	}
	return l
}

// arrays: changes of a state's arrays.
func arrays(s vm.State) []change {
	var l []change
	copied := func() map[int]*array.Array {
		m := map[int]*array.Array{}
		for n, a := range s.Arrays {
			m[n] = &array.Array{}
			for key, c := range a.All() {
				m[n].Set(key, c)
			}
		}
		return m
	}
	add := func(text string, must bool, m map[int]*array.Array) {
		c := s
		c.Arrays = m
		l = append(l, change{text, must && s.Part != 3, c})
	}
	for n := range s.Arrays {
		m := copied()
		delete(m, n)
		add("an array less", true, m)
		m = copied()
		m[n] = nil
		add("an array that is none", true, m)
		m = copied()
		m[n] = &array.Array{}
		add("an empty array", false, m)
		for _, x := range badCells() {
			m = copied()
			m[n].Set("bad", x)
			add("a bad value", true, m)
		}
		for i, must := range []bool{false, true} {
			m = copied()
			for _, a := range m {
				a.Clear()
			}
			for k := range vm.MaxCells + i {
				m[n].Set(strconv.Itoa(k), cell.Int(k))
			}
			add("many keys", must, m)
		}
	}
	for _, n := range []int{math.MinInt, -1, 0, 1, 2, len(s.Globals), s.Last + 1, math.MaxInt} {
		m := copied()
		if m[n] == nil {
			m[n] = &array.Array{}
			add("an array more", true, m)
		}
	}
	add("no arrays", len(s.Arrays) > 0, nil)
	return l
}

// P18.2: Good of states of which one part is changed: ErrForm, or a machine of it runs without panic.
func TestGood(t *testing.T) {
	good, bad := 0, 0
	points(t, 31, func(x run, m *vm.Machine) {
		_, s := there(t, x, m)
		l := append(append(numbers(s), lists(s)...), arrays(s)...)
		for _, c := range l {
			switch e := state.Good(c.s, x.p, x.in); {
			case e == api.OK && c.must:
				t.Fatalf("%q behind %d: taken: %s: %v", x.source, m.Steps, c.text, c.s)
			case e == api.OK:
				good++
				checkRuns(t, x, c.s)
			case e == api.ErrForm:
				bad++
			default:
				t.Fatalf("%q behind %d: %s: %d", x.source, m.Steps, c.text, e)
			}
		}
	})
	if good < 2000 || bad < 2000 {
		t.Errorf("%d are good, %d aren't", good, bad)
	}
}

// P18.2: a state of another run, at each of its steps.
func TestOthersStates(t *testing.T) {
	all := samples(t)
	points(t, 23, func(x run, m *vm.Machine) {
		for _, other := range all {
			if state.Good(m.State, other.p, other.in) == api.OK {
				checkRuns(t, other, m.State)
			}
		}
	})
}

// P18.2: the zero State, and calls that are as deep as they may be, and deeper.
func TestEdges(t *testing.T) {
	for _, x := range samples(t) {
		if e := state.Good(vm.State{}, x.p, x.in); e != api.ErrForm {
			t.Errorf("%q: the zero State: %d", x.source, e)
		}
		for part := range 5 {
			if e := state.Good(vm.State{Part: part}, x.p, x.in); (e == api.OK) != (part == 3) {
				t.Errorf("%q: an empty state of part %d: %d", x.source, part, e)
			}
		}
	}
	x := newRun(t, "function f(n){f(n+1)} BEGIN{f(1)}")
	m, _ := x.behind(0)
	for len(m.Frames) < 100 {
		m.Run(1)
	}
	if e := state.Good(m.State, x.p, x.in); e != api.OK {
		t.Errorf("100 calls: %d", e)
	}
	s := m.State
	s.Frames = append(append([]vm.Frame(nil), s.Frames...), s.Frames[99])
	if e := state.Good(s, x.p, x.in); e != api.ErrForm {
		t.Errorf("101 calls: %d", e)
	}
}
