package vm_test

import (
	"slices"
	"strings"
	"testing"

	"scribe/api"
	"scribe/code"
	"scribe/num"
	"scribe/vm"
)

// assembled: a program of these steps, one part behind the other: globals 8 is the value x, 9 the array m; function 0 has a value and an array.
func assembled(t *testing.T, begin, record, end, function []code.Ins) *code.Program {
	t.Helper()
	p := &code.Program{Nums: []num.Num{0, num.One, 2 * num.One}, Strs: []string{"", "a", "o"}}
	p.Globals = strings.Fields("NR NF FS OFS ORS FILENAME RSTART RLENGTH x m")
	p.Arrays = make([]bool, 10)
	p.Arrays[9] = true
	p.Funcs = []code.Func{{Arrays: []bool{false, true}}}
	for _, part := range []struct {
		first *int
		l     []code.Ins
	}{{&p.Begin, begin}, {&p.Record, record}, {&p.End, end}, {&p.Funcs[0].Entry, function}} {
		*part.first = len(p.Code)
		for _, x := range part.l {
			if x.Op >= code.Jump && x.Op <= code.JumpNot || x.Op == code.Step {
				x.A += *part.first
			}
			p.Code = append(p.Code, x)
		}
	}
	if e := code.Check(p); e != api.OK {
		t.Fatalf("Check: %d: %v", e, p.Code)
	}
	return p
}

// P17.1: programs that code.Check takes, and that no text is: parts that are left with things on the stack and with keys begun.
func TestAssembled(t *testing.T) {
	stop := []code.Ins{{Op: code.Stop}}
	one, ref, iter := code.Ins{Op: code.Num, A: 1}, code.Ins{Op: code.Ref, A: 9}, code.Ins{Op: code.Iter, A: 9}
	back := []code.Ins{{Op: code.Num}, {Op: code.Return}}
	print1 := []code.Ins{one, {Op: code.Print, A: 1}}
	for i, x := range []struct {
		begin, record, end, function []code.Ins
		out                          string
		status                       int
		err                          api.Errno
	}{
		// next, with things on the stack and keys begun.
		{stop, slices.Concat([]code.Ins{one, one, ref, iter, iter}, print1, []code.Ins{{Op: code.Next}}), slices.Concat(print1, stop), back, "1\n1\n1\n1\n", 0, api.OK},
		// A call that is left with things on its stack and keys begun, between things of the one around it.
		{[]code.Ins{{Op: code.Num, A: 2}, one, {Op: code.SetElem, A: 9}, {Op: code.Pop}, iter, one, {Op: code.Num, A: 2}, ref, {Op: code.Call, B: 2}, {Op: code.Print, A: 2}, {Op: code.Step, A: 14}, {Op: code.Print, A: 1}, {Op: code.Exit}, {Op: code.Stop}, {Op: code.Drop}, {Op: code.Stop}}, stop, stop,
			[]code.Ins{one, one, {Op: code.Iter, A: 1, B: 1}, {Op: code.Iter, A: 9}, {Op: code.Step, A: 7}, {Op: code.Get, A: 0, B: 1}, {Op: code.Return}, {Op: code.Num}, {Op: code.Return}}, "1 2\n2\n", 0, api.OK},
		// exit likewise, with a value and without.
		{[]code.Ins{one, ref, iter, {Op: code.Num, A: 2}, {Op: code.Exit, A: 1}}, stop, stop, back, "", 2, api.OK},
		{stop, []code.Ins{one, ref, iter, {Op: code.Exit}}, stop, back, "", 0, api.OK},
		{stop, stop, []code.Ins{one, {Op: code.Call}, {Op: code.Exit, A: 1}}, []code.Ins{one, one, {Op: code.Iter, A: 1, B: 1}, {Op: code.Num, A: 2}, {Op: code.Exit, A: 1}}, "", 2, api.OK},
		// A missing value and a missing array of a call, and one of both.
		{[]code.Ins{one, {Op: code.Call, B: 1}, {Op: code.Call}, {Op: code.Print, A: 2}, {Op: code.Stop}}, stop, stop, []code.Ins{{Op: code.Get, A: 0, B: 1}, one, {Op: code.Elem, A: 1, B: 1}, {Op: code.Binary, A: 5}, {Op: code.Return}}, "1 \n", 0, api.OK},
		// Jumps alone, by what is true and what isn't, and Dup.
		{[]code.Ins{one, {Op: code.JumpIf, A: 3}, {Op: code.Exit}, {Op: code.Num}, {Op: code.JumpNot, A: 6}, {Op: code.Exit}, {Op: code.Jump, A: 8}, {Op: code.Exit}, {Op: code.Num, A: 2}, {Op: code.Dup}, {Op: code.Dup}, {Op: code.Print, A: 3}, {Op: code.Num, A: 2}, {Op: code.JumpNot, A: 2}, {Op: code.Num}, {Op: code.JumpIf, A: 2}, {Op: code.Str, A: 1}, {Op: code.Bool}, {Op: code.Print, A: 1}, {Op: code.Stop}}, stop, stop, back, "2 2 2\n1\n", 0, api.OK},
		// How many matches there were, asked again and again; 0 ahead of all.
		{[]code.Ins{{Op: code.Hits}, {Op: code.Str, A: 1}, {Op: code.Str}, {Op: code.Str, A: 2}, {Op: code.Sub, A: 1}, {Op: code.Hits}, {Op: code.Hits}, {Op: code.Print, A: 4}, {Op: code.Stop}}, stop, stop, back, "0 oao 2 2\n", 0, api.OK},
		// match the other way; printf; by 0; a file that is appended to.
		{[]code.Ins{{Op: code.Str, A: 1}, {Op: code.Str, A: 2}, {Op: code.Match, A: 1}, {Op: code.Str, A: 1}, {Op: code.Str, A: 2}, {Op: code.Match}, {Op: code.Print, A: 2}, {Op: code.Str, A: 1}, one, {Op: code.Printf, A: 2}, {Op: code.Str, A: 1}, {Op: code.Str, A: 2}, {Op: code.Print, A: 1, B: 2}, one, {Op: code.Num}, {Op: code.Binary, A: 3}, {Op: code.Print, A: 1}, {Op: code.Stop}}, stop, stop, back, "1 0\na", 0, api.ErrRun},
		// A call that never ends is too deep, with things on each one's stack.
		{[]code.Ins{one, one, {Op: code.Call}, {Op: code.Exit, A: 1}}, stop, stop, []code.Ins{one, iter, {Op: code.Call}, {Op: code.Return}}, "", 0, api.ErrDeep},
	} {
		p := assembled(t, x.begin, x.record, x.end, x.function)
		for _, size := range []int{1, 3, enough} {
			out := sheets{}
			m := vm.New(p, files("a\nb\n", "c"), out.output())
			for n := 0; n < 5000 && !m.Over(); n++ {
				m.Run(size)
				if len(m.Frames) == 0 && m.Part == 1 && m.PC == p.Record && len(m.Stack)+len(m.Keys) > 0 {
					t.Errorf("%d: a record begins with %v, %v", i, m.Stack, m.Keys)
				}
			}
			if status, e := m.Code(); !m.Over() || out["stdout"] != x.out || status != x.status || e != x.err {
				t.Errorf("%d: %q, %d, %d, over: %v; want %q, %d, %d", i, out, status, e, m.Over(), x.out, x.status, x.err)
			}
		}
	}
}

// P17.1: as many things lie on the stack as code.Check takes, in each of a hundred calls.
func TestManyThings(t *testing.T) {
	one := code.Ins{Op: code.Num, A: 1}
	add := slices.Repeat([]code.Ins{{Op: code.Binary}}, 4999)
	body := slices.Concat(slices.Repeat([]code.Ins{one}, 4990), []code.Ins{
		{Op: code.Get, A: 8}, {Op: code.Num, A: 1}, {Op: code.Binary}, {Op: code.Set, A: 8}, {Op: code.Pop},
		{Op: code.Get, A: 8}, {Op: code.Num, A: 2}, {Op: code.Binary, A: 6}, {Op: code.JumpNot, A: 5001}, {Op: code.Call}, {Op: code.Jump, A: 5002}, one}, add[:4990], []code.Ins{{Op: code.Return}})
	p := assembled(t, []code.Ins{{Op: code.Call}, {Op: code.Print, A: 1}, {Op: code.Stop}}, []code.Ins{{Op: code.Stop}}, []code.Ins{{Op: code.Stop}}, body)
	out := sheets{}
	m := vm.New(p, nil, out.output())
	m.Run(enough)
	if out["stdout"] != "9981\n" || !m.Over() {
		t.Errorf("%q, %v", out, m.Over())
	}
	p.Nums[2] = 99 * num.One
	m = vm.New(p, nil, out.output())
	m.Run(enough)
	if _, e := m.Code(); out["stdout"] != "494011\n" || e != api.OK || !m.Over() {
		t.Errorf("%q, %d", out, e)
	}
	p.Nums[2] = 200 * num.One
	m = vm.New(p, nil, out.output())
	m.Run(enough)
	if _, e := m.Code(); e != api.ErrDeep || !m.Over() {
		t.Errorf("%d", e)
	}
}
