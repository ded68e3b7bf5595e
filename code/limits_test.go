package code_test

import (
	"math"
	"slices"
	"strings"
	"testing"

	"scribe/code"
	"scribe/num"
)

// times: so many steps.
func times(n int, l ...code.Ins) []code.Ins {
	return slices.Repeat(l, n)
}

// P15.2: MaxCode steps are taken, one more isn't, be it met or not.
func TestMostSteps(t *testing.T) {
	if code.MaxCode != 20000 || code.MaxStack != 5000 {
		t.Errorf("MaxCode %d, MaxStack %d", code.MaxCode, code.MaxStack)
	}
	get, pop := code.Ins{Op: code.Get}, code.Ins{Op: code.Pop}
	for _, l := range [][]code.Ins{times(9990, get, pop), append(times(5000, get), times(14980, code.Ins{Op: code.Unary})...), append([]code.Ins{{Op: code.Exit}}, times(19980, code.Ins{Op: 99})...)} {
		p := behind(0, "", 0, l...)
		for n, want := range []bool{true, false} {
			for len(p.Code) < 20000+n {
				p.Code = append(p.Code, code.Ins{Op: code.Exit})
			}
			if agree(t, p) != want {
				t.Errorf("%d steps: want %v", len(p.Code), want)
			}
		}
	}
}

// P15.2: MaxStack things may lie on the stack ahead of a step, and so many keys be begun, and not one more.
func TestMostThings(t *testing.T) {
	one, ref := code.Ins{Op: code.Num, A: 1}, code.Ins{Op: code.Ref, A: 11}
	exit, pop := code.Ins{Op: code.Exit}, code.Ins{Op: code.Pop}
	iter := code.Ins{Op: code.Iter, A: 10}
	for i, x := range []struct {
		want bool
		l    [][]code.Ins
	}{
		{true, [][]code.Ins{times(4999, one)}}, {true, [][]code.Ins{times(5000, one)}}, {false, [][]code.Ins{times(5001, one)}}, {false, [][]code.Ins{times(5001, one), {pop}}},
		{true, [][]code.Ins{times(5000, ref)}}, {false, [][]code.Ins{times(5001, ref)}}, {false, [][]code.Ins{times(5001, ref), {exit}}},
		{true, [][]code.Ins{times(4999, one), {{Op: code.Dup}}}}, {false, [][]code.Ins{times(5000, one), {{Op: code.Dup}}}}, {false, [][]code.Ins{times(5000, one), {{Op: code.Hits}}}}, {true, [][]code.Ins{times(5000, one), {{Op: code.Bool}}}},
		{true, [][]code.Ins{times(5000, iter)}}, {false, [][]code.Ins{times(5001, iter)}}, {true, [][]code.Ins{times(5000, iter), {{Op: code.Drop}, iter, {Op: code.Drop}}}}, {false, [][]code.Ins{times(5000, iter), {iter, {Op: code.Drop}}}},
		{true, [][]code.Ins{times(5000, iter), times(5000, one)}}, {true, [][]code.Ins{times(5000, one), times(5000, iter)}}, {false, [][]code.Ins{times(5000, one), times(5001, iter)}},
		{true, [][]code.Ins{{iter}, times(4999, one), {{Op: code.Step, A: 0}}}}, {false, [][]code.Ins{{iter}, times(5000, one), {{Op: code.Step, A: 0}}}},
		{true, [][]code.Ins{times(5000, one), {{Op: code.Print, A: 5000}}}}, {false, [][]code.Ins{times(5000, one), {{Op: code.Print, A: 5000, B: 1}}}}, {true, [][]code.Ins{times(5000, one), {{Op: code.Printf, A: 4999, B: 2}}}}, {false, [][]code.Ins{times(4999, one), {{Op: code.Printf, A: 5000}}}},
		{true, [][]code.Ins{times(5000, one), {{Op: code.Builtin, A: 8, B: 5000}}}}, {false, [][]code.Ins{times(5000, one), {{Op: code.Builtin, A: 8, B: 5001}}}}, {false, [][]code.Ins{times(4999, one), {{Op: code.Builtin, A: 8, B: 5000}}}},
		{true, [][]code.Ins{times(5000, one), {{Op: code.Call, A: 4, B: 5000}}}}, {true, [][]code.Ins{times(5000, one), {{Op: code.Call, A: 4}, pop}}[:1]}, {false, [][]code.Ins{times(5000, one), {{Op: code.Call, A: 4, B: 5001}}}}, {false, [][]code.Ins{times(4999, one), {{Op: code.Call, A: 4, B: 5000}}}}, {false, [][]code.Ins{times(4999, one), {ref, {Op: code.Call, A: 4, B: 5000}}}}, {false, [][]code.Ins{times(5000, one), {{Op: code.Call, A: 4, B: 6000}}}},
	} {
		l := slices.Concat(x.l...)
		p := behind(0, "", 0, l...)
		p.Funcs = append(p.Funcs, code.Func{Entry: len(p.Code), Arrays: make([]bool, 6000)})
		p.Code = append(p.Code, code.Ins{Op: code.Get, A: 5999, B: 1}, code.Ins{Op: code.Return})
		for at := range p.Code {
			if p.Code[at].Op == code.Step { // its keys are over at an Exit of its own
				p.Code[at].A = len(p.Code)
			}
		}
		p.Code = append(p.Code, exit)
		if agree(t, p) != x.want {
			t.Errorf("%d: %v: want %v", i, last(l), x.want)
		}
	}
}

// P15.2: numbers at both bounds and beyond them, be they pushed or not.
func TestNumbers(t *testing.T) {
	for _, x := range []struct {
		n    num.Num
		want bool
	}{{0, true}, {1, true}, {num.Most, true}, {-num.Most, true}, {num.Most + 1, false}, {-num.Most - 1, false}, {math.MaxInt64, false}, {math.MinInt64, false}} {
		for at := range 4 {
			p := behind(0, "", 0, code.Ins{Op: code.Num, A: 3})
			p.Nums = []num.Num{0, 1, 2, 3}
			p.Nums[at] = x.n
			if agree(t, p) != x.want {
				t.Errorf("number %d is %d: want %v", at, x.n, x.want)
			}
		}
	}
}

// P15.2: there is one of Arrays for each of Globals, and the first eight are the language's own, no arrays.
func TestGlobals(t *testing.T) {
	wrong := func(text string, change func(p *code.Program)) {
		t.Helper()
		p := world()
		change(p)
		if agree(t, p) {
			t.Errorf("%s: taken", text)
		}
	}
	wrong("one more name", func(p *code.Program) { p.Globals = append(p.Globals, "z") })
	wrong("one more kind", func(p *code.Program) { p.Arrays = append(p.Arrays, false) })
	wrong("no kinds", func(p *code.Program) { p.Arrays = nil })
	wrong("no names", func(p *code.Program) { p.Globals = nil })
	wrong("nothing", func(p *code.Program) { p.Globals, p.Arrays = nil, nil })
	wrong("seven", func(p *code.Program) { p.Globals, p.Arrays = p.Globals[:7], p.Arrays[:7] })
	wrong("the first one is wanting", func(p *code.Program) { p.Globals, p.Arrays = p.Globals[1:], p.Arrays[1:] })
	wrong("two are exchanged", func(p *code.Program) { p.Globals[6], p.Globals[7] = p.Globals[7], p.Globals[6] })
	wrong("another one ahead", func(p *code.Program) {
		p.Globals, p.Arrays = slices.Insert(p.Globals, 0, "x"), slices.Insert(p.Arrays, 0, false)
	})
	for i := range 8 {
		wrong("an array", func(p *code.Program) { p.Arrays[i] = true })
		wrong("another name", func(p *code.Program) { p.Globals[i] = strings.ToLower(p.Globals[i]) })
		wrong("an empty name", func(p *code.Program) { p.Globals[i] = "" })
	}
	p := world()
	p.Globals, p.Arrays = p.Globals[:8], p.Arrays[:8]
	if !agree(t, p) {
		t.Error("the eight alone aren't taken")
	}
	// Of the others nothing is said but that each has its kind.
	p = world()
	p.Globals[8], p.Globals[9], p.Globals[10] = "NR", "", "x y"
	if !agree(t, p) {
		t.Error("other names aren't taken")
	}
}
