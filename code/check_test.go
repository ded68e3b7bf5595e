package code_test

import (
	"math"
	"slices"
	"strings"
	"testing"

	"scribe/api"
	"scribe/code"
	"scribe/num"
)

// world: a program with all that steps may name, but no steps of its own. Globals 8 and 9 are values, 10 and 11 arrays. Function 0 has no variables, 1 a value, an array and a value, 2 two arrays, 3 a value. Each part begins at a step that ends it: the End at 0, the functions behind it, and then the Begin and the Record.
func world() *code.Program {
	globals := strings.Fields("NR NF FS OFS ORS FILENAME RSTART RLENGTH x y m n")
	arrays := make([]bool, len(globals))
	arrays[10], arrays[11] = true, true
	p := &code.Program{Nums: []num.Num{0, 1500000}, Strs: []string{"", "a", "b"}, Globals: globals, Arrays: arrays}
	for _, names := range []string{"", "vav", "aa", "v"} {
		f := code.Func{Entry: len(p.Funcs) + 1}
		for _, kind := range names {
			f.Arrays = append(f.Arrays, kind == 'a')
		}
		p.Funcs = append(p.Funcs, f)
	}
	for range 7 {
		p.Code = append(p.Code, code.Ins{Op: code.Exit})
	}
	p.Begin, p.Record, p.End = 5, 6, 0
	return p
}

// begin: the part begins here.
func begin(p *code.Program, part, at int) {
	switch part {
	case 0:
		p.Begin = at
	case 1:
		p.Record = at
	case 2:
		p.End = at
	default:
		p.Funcs[part-3].Entry = at
	}
}

// behind: a world in which a part pushes these things, begins with so many keys, does some steps, and ends.
func behind(part int, stack string, iters int, l ...code.Ins) *code.Program {
	p := world()
	begin(p, part, len(p.Code))
	for _, thing := range stack {
		if thing == 'a' {
			p.Code = append(p.Code, code.Ins{Op: code.Ref, A: 10})
			continue
		}
		p.Code = append(p.Code, code.Ins{Op: code.Num})
	}
	for range iters {
		p.Code = append(p.Code, code.Ins{Op: code.Iter, A: 11})
	}
	p.Code = append(append(p.Code, l...), code.Ins{Op: code.Exit})
	return p
}

// agree holds Check and Shapes against the model, and answers whether the program is taken.
func agree(t *testing.T, p *code.Program) bool {
	t.Helper()
	shapes, ok := model(p)
	want := api.OK
	if !ok {
		want = api.ErrForm
	}
	if e := code.Check(p); e != want {
		t.Fatalf("Check: %d, want %d: %v of %v, %v, %v, %v", e, want, last(p.Code), p.Begin, p.Record, p.End, p.Funcs)
	}
	got := code.Shapes(p)
	if !ok && len(got) != 0 || ok && !slices.Equal(got, shapes) {
		t.Fatalf("Shapes: %v, want %v: %v", got, shapes, p.Code)
	}
	return ok
}

// last: the last steps.
func last(l []code.Ins) []code.Ins {
	return l[max(0, len(l)-30):]
}

// near: stacks on which the things that a step takes lie, and such on which they nearly do.
func near(takes string) []string {
	l := []string{takes, "v" + takes, "a" + takes, takes + "v", takes + "a"}
	if takes != "" {
		l = append(l, takes[1:], takes[:len(takes)-1])
	}
	for i := range takes {
		if i < 3 || i == len(takes)-1 {
			l = append(l, takes[:i]+map[byte]string{'v': "a", 'a': "v"}[takes[i]]+takes[i+1:])
		}
	}
	return l
}

// P15.2: each step, with each A and B around the bounds, in each part, on stacks that have what it takes and on such that nearly do.
func TestEachStep(t *testing.T) {
	numbers := []int{math.MinInt, -2, -1, 0, 1, 2, 3, 4, 5, 6, 7, 8, 9, 10, 11, 12, 13, 18, 19, 20, 21, 5000, 5001, math.MaxInt}
	taken := map[int]int{}
	for op := -1; op <= 36; op++ {
		s, _ := find(op)
		for _, a := range numbers {
			for _, b := range numbers {
				for _, part := range []int{0, 1, 2, 4, 5} {
					x := code.Ins{Op: op, A: a, B: b}
					takes, ok := s.right(world(), part, x)
					stacks := near(takes)
					if len(takes) > 100 && part > 0 {
						stacks = stacks[:1]
					}
					if !ok {
						stacks = []string{"", "vvv", "va"}
					}
					for _, stack := range stacks {
						if agree(t, behind(part, stack, 0, x)) {
							taken[op]++
						}
						if b == 0 && agree(t, behind(part, stack, 1, x)) {
							taken[op]++
						}
					}
				}
			}
		}
	}
	for op := 1; op <= 34; op++ {
		if taken[op] == 0 {
			t.Errorf("step %d is never taken", op)
		}
	}
	if len(taken) != 34 {
		t.Errorf("taken: %v", taken)
	}
}

// P15.2: what is said of the steps, in the chapter's words, by hand.
func TestStepsByHand(t *testing.T) {
	for _, x := range []struct {
		step  code.Ins
		part  int
		stack string
		want  string // what lies on the stack behind it; -: it isn't taken
	}{
		{code.Ins{Op: code.Num, A: 1}, 0, "", "v"}, {code.Ins{Op: code.Num, A: 2}, 0, "", "-"}, {code.Ins{Op: code.Str, A: 2}, 0, "", "v"}, {code.Ins{Op: code.Str, A: 3}, 0, "", "-"}, {code.Ins{Op: code.Num, A: -1}, 0, "", "-"},
		{code.Ins{Op: code.Get, A: 9}, 0, "a", "av"}, {code.Ins{Op: code.Get, A: 10}, 0, "", "-"}, {code.Ins{Op: code.Get, A: 0, B: 1}, 0, "", "-"}, {code.Ins{Op: code.Get, A: 0, B: 1}, 4, "", "v"}, {code.Ins{Op: code.Get, A: 1, B: 1}, 4, "", "-"}, {code.Ins{Op: code.Get, A: 3, B: 1}, 4, "", "-"}, {code.Ins{Op: code.Get, A: 0, B: 1}, 3, "", "-"}, {code.Ins{Op: code.Get, A: 0, B: 2}, 4, "", "-"},
		{code.Ins{Op: code.Field}, 1, "v", "v"}, {code.Ins{Op: code.Field}, 1, "va", "-"}, {code.Ins{Op: code.Field, A: 9, B: -9}, 1, "v", "v"}, {code.Ins{Op: code.Elem, A: 11}, 1, "v", "v"}, {code.Ins{Op: code.Elem, A: 9}, 1, "v", "-"}, {code.Ins{Op: code.Elem, A: 1, B: 1}, 5, "v", "v"},
		{code.Ins{Op: code.Set, A: 8}, 2, "vv", "vv"}, {code.Ins{Op: code.Set, A: 8, B: 10}, 2, "v", "v"}, {code.Ins{Op: code.Set, A: 8, B: 12}, 2, "", "v"}, {code.Ins{Op: code.Set, A: 8, B: 18}, 2, "", "v"}, {code.Ins{Op: code.Set, A: 8, B: 20}, 2, "v", "-"}, {code.Ins{Op: code.Set, A: 2, B: 19}, 4, "", "v"}, {code.Ins{Op: code.Set, A: 2, B: 11}, 4, "", "-"}, {code.Ins{Op: code.Set, A: 8, B: -2}, 2, "v", "-"}, {code.Ins{Op: code.Set, A: 10}, 2, "v", "-"},
		{code.Ins{Op: code.SetField, B: 5}, 2, "vv", "v"}, {code.Ins{Op: code.SetField, B: 6}, 2, "vv", "vv"}, {code.Ins{Op: code.SetField, B: 9}, 2, "v", "v"}, {code.Ins{Op: code.SetField, B: 10}, 2, "vv", "-"}, {code.Ins{Op: code.SetField, B: 5}, 2, "v", "-"}, {code.Ins{Op: code.SetElem, A: 10, B: 10}, 2, "vv", "v"}, {code.Ins{Op: code.SetElem, A: 10, B: 12}, 2, "v", "v"}, {code.Ins{Op: code.SetElem, A: 1, B: 13}, 4, "v", "v"}, {code.Ins{Op: code.SetElem, A: 8}, 2, "vv", "-"},
		{code.Ins{Op: code.Binary, A: 11}, 0, "vv", "v"}, {code.Ins{Op: code.Binary, A: 12}, 0, "vv", "-"}, {code.Ins{Op: code.Binary}, 0, "av", "-"}, {code.Ins{Op: code.Unary, A: 2}, 0, "v", "v"}, {code.Ins{Op: code.Unary, A: 3}, 0, "v", "-"}, {code.Ins{Op: code.Match, A: 1}, 0, "vv", "v"}, {code.Ins{Op: code.Match, A: 2}, 0, "vv", "-"},
		{code.Ins{Op: code.In, A: 10}, 0, "v", "v"}, {code.Ins{Op: code.Delete, A: 10}, 0, "v", ""}, {code.Ins{Op: code.Delete, A: 10}, 0, "", "-"}, {code.Ins{Op: code.Clear, A: 10}, 0, "v", "v"}, {code.Ins{Op: code.Clear, A: 8}, 0, "v", "-"}, {code.Ins{Op: code.Ref, A: 10}, 0, "", "a"}, {code.Ins{Op: code.Ref, A: 8}, 0, "", "-"},
		{code.Ins{Op: code.Pop}, 0, "v", ""}, {code.Ins{Op: code.Pop}, 0, "a", "-"}, {code.Ins{Op: code.Bool}, 0, "v", "v"}, {code.Ins{Op: code.Bool}, 0, "a", "-"}, {code.Ins{Op: code.Dup}, 0, "v", "vv"}, {code.Ins{Op: code.Dup}, 0, "a", "-"},
		{code.Ins{Op: code.Call, A: 1, B: 3}, 0, "vav", "v"}, {code.Ins{Op: code.Call, A: 1, B: 2}, 0, "va", "v"}, {code.Ins{Op: code.Call, A: 1, B: 1}, 4, "av", "av"}, {code.Ins{Op: code.Call, A: 1}, 0, "", "v"}, {code.Ins{Op: code.Call, A: 1, B: 4}, 0, "vavv", "-"}, {code.Ins{Op: code.Call, A: 1, B: 3}, 0, "vvv", "-"}, {code.Ins{Op: code.Call, A: 1, B: -1}, 0, "", "-"}, {code.Ins{Op: code.Call, A: 4}, 0, "", "-"}, {code.Ins{Op: code.Call, A: 0, B: 1}, 0, "v", "-"}, {code.Ins{Op: code.Call, A: 2, B: 2}, 0, "aa", "v"},
		{code.Ins{Op: code.Builtin, A: 0, B: 1}, 0, "v", "v"}, {code.Ins{Op: code.Builtin, A: 0, B: 0}, 0, "", "-"}, {code.Ins{Op: code.Builtin, A: 1, B: 3}, 0, "vvv", "v"}, {code.Ins{Op: code.Builtin, A: 3, B: 2}, 0, "va", "v"}, {code.Ins{Op: code.Builtin, A: 3, B: 3}, 0, "vav", "v"}, {code.Ins{Op: code.Builtin, A: 3, B: 4}, 0, "vav", "v"}, {code.Ins{Op: code.Builtin, A: 3, B: 4}, 0, "vavv", "-"}, {code.Ins{Op: code.Builtin, A: 3, B: 5}, 0, "vav", "-"}, {code.Ins{Op: code.Builtin, A: 3, B: 1}, 0, "v", "-"}, {code.Ins{Op: code.Builtin, A: 3, B: 2}, 0, "vv", "-"}, {code.Ins{Op: code.Builtin, A: 8, B: 1}, 0, "v", "v"}, {code.Ins{Op: code.Builtin, A: 8}, 0, "", "-"}, {code.Ins{Op: code.Builtin, A: 9}, 0, "", "v"}, {code.Ins{Op: code.Builtin, A: 9, B: 1}, 0, "v", "-"}, {code.Ins{Op: code.Builtin, A: 10, B: 1}, 0, "v", "v"}, {code.Ins{Op: code.Builtin, A: 11, B: 1}, 0, "v", "-"},
		{code.Ins{Op: code.Sub, A: 1}, 0, "vvv", "v"}, {code.Ins{Op: code.Sub, A: 2}, 0, "vvv", "-"}, {code.Ins{Op: code.Sub}, 0, "vv", "-"}, {code.Ins{Op: code.Hits}, 0, "", "v"},
		{code.Ins{Op: code.Print, A: 1}, 0, "v", ""}, {code.Ins{Op: code.Print, A: 0}, 0, "v", "-"}, {code.Ins{Op: code.Print, A: 2, B: 1}, 0, "vvvv", "v"}, {code.Ins{Op: code.Printf, A: 2, B: 2}, 0, "vvv", ""}, {code.Ins{Op: code.Printf, A: 1, B: 3}, 0, "vv", "-"}, {code.Ins{Op: code.Printf, A: 1, B: -1}, 0, "vv", "-"}, {code.Ins{Op: code.Print, A: 1, B: 1}, 0, "v", "-"}, {code.Ins{Op: code.Print, A: 2}, 0, "av", "-"},
		{code.Ins{Op: code.Iter, A: 10}, 0, "v", "v"}, {code.Ins{Op: code.Iter, A: 9}, 0, "v", "-"}, {code.Ins{Op: code.Drop}, 0, "v", "-"}, {code.Ins{Op: 0}, 0, "", "-"}, {code.Ins{Op: 35}, 0, "", "-"}, {code.Ins{Op: -1}, 0, "", "-"},
	} {
		p := behind(x.part, x.stack, 0, x.step)
		got, e := "-", code.Check(p)
		if l := code.Shapes(p); len(l) > 0 {
			got = l[len(l)-1].Stack
		}
		if got != x.want || (e == api.OK) != (x.want != "-") {
			t.Errorf("%v in part %d on %q: %q, %d, want %q", x.step, x.part, x.stack, got, e, x.want)
		}
	}
}

// P15.2: steps behind which nothing comes, in the parts in which they may stand, with things on the stack and keys begun.
func TestEnds(t *testing.T) {
	for _, x := range []struct {
		step  code.Ins
		part  int
		stack string
		iters int
		want  bool
	}{
		{code.Ins{Op: code.Stop}, 0, "", 0, true}, {code.Ins{Op: code.Stop}, 1, "", 0, true}, {code.Ins{Op: code.Stop}, 2, "", 0, true}, {code.Ins{Op: code.Stop}, 3, "", 0, false}, {code.Ins{Op: code.Stop}, 6, "", 0, false}, {code.Ins{Op: code.Stop}, 0, "v", 0, false}, {code.Ins{Op: code.Stop}, 1, "a", 0, false}, {code.Ins{Op: code.Stop}, 2, "", 1, false},
		{code.Ins{Op: code.Next}, 0, "", 0, false}, {code.Ins{Op: code.Next}, 1, "", 0, true}, {code.Ins{Op: code.Next}, 2, "", 0, false}, {code.Ins{Op: code.Next}, 3, "", 0, false}, {code.Ins{Op: code.Next}, 4, "", 0, false}, {code.Ins{Op: code.Next}, 1, "va", 3, true},
		{code.Ins{Op: code.Return}, 0, "v", 0, false}, {code.Ins{Op: code.Return}, 1, "v", 0, false}, {code.Ins{Op: code.Return}, 2, "v", 0, false}, {code.Ins{Op: code.Return}, 3, "v", 0, true}, {code.Ins{Op: code.Return}, 6, "v", 0, true}, {code.Ins{Op: code.Return}, 3, "", 0, false}, {code.Ins{Op: code.Return}, 3, "a", 0, false}, {code.Ins{Op: code.Return}, 3, "avv", 2, true},
		{code.Ins{Op: code.Exit}, 0, "", 0, true}, {code.Ins{Op: code.Exit}, 1, "va", 1, true}, {code.Ins{Op: code.Exit, A: 1}, 2, "v", 0, true}, {code.Ins{Op: code.Exit, A: 1}, 4, "av", 2, true}, {code.Ins{Op: code.Exit, A: 1}, 0, "", 0, false}, {code.Ins{Op: code.Exit, A: 1}, 0, "a", 0, false}, {code.Ins{Op: code.Exit, A: 2}, 0, "vv", 0, false}, {code.Ins{Op: code.Exit, A: -1}, 0, "vv", 0, false},
	} {
		// What stands behind them isn't met: it may be wrong.
		p := behind(x.part, x.stack, x.iters, x.step, code.Ins{Op: 99})
		p.Code = p.Code[:len(p.Code)-1]
		if agree(t, p) != x.want {
			t.Errorf("%v in part %d on %q, %d: want %v", x.step, x.part, x.stack, x.iters, x.want)
		}
		if l := code.Shapes(p); x.want && l[len(l)-1] != (code.Shape{}) {
			t.Errorf("%v: behind it %v", x.step, l[len(l)-1])
		}
		if p.Code = p.Code[:len(p.Code)-1]; agree(t, p) != x.want {
			t.Errorf("%v at the end: want %v", x.step, x.want)
		}
	}
}

// P15.2: jumps, keys, and where they lead to.
func TestJumps(t *testing.T) {
	at := len(world().Code)
	for op := range 40 {
		for _, to := range []int{math.MinInt, -1, 0, 1, 2, 5, 6, at - 1, at, at + 1, at + 2, at + 3, at + 4, at + 5, math.MaxInt} {
			for part := range 7 {
				for _, stack := range []string{"", "v", "a", "vv", "av"} {
					for iters := range 3 {
						x := code.Ins{Op: op, A: to}
						agree(t, behind(part, stack, iters, x))
						agree(t, behind(part, stack, iters, x, code.Ins{Op: code.Pop}))
						agree(t, behind(part, stack, iters, x, code.Ins{Op: code.Jump, A: at}))
						agree(t, behind(part, stack, iters, x, code.Ins{Op: code.Pop}, code.Ins{Op: code.Jump, A: at + len(stack) + iters}, code.Ins{Op: code.Drop}))
					}
				}
			}
		}
	}
	exit := code.Ins{Op: code.Exit}
	pop := code.Ins{Op: code.Pop}
	get := code.Ins{Op: code.Get}
	iter := code.Ins{Op: code.Iter, A: 10}
	for i, x := range []struct {
		want bool
		l    []code.Ins // from place at on
	}{
		{true, []code.Ins{{Op: code.Jump, A: at}}},
		{true, []code.Ins{{Op: code.Jump, A: at + 1}, {Op: code.Jump, A: at}}},
		{false, []code.Ins{{Op: code.Jump, A: at + 3}, exit}},
		{false, []code.Ins{{Op: code.Jump, A: -1}}},
		{false, []code.Ins{get, {Op: code.JumpIf, A: at + 3}}},
		{true, []code.Ins{get, {Op: code.JumpIf, A: at}}},
		{false, []code.Ins{get, {Op: code.JumpIf, A: at + 1}}},
		{false, []code.Ins{get, {Op: code.JumpNot, A: 0}}},    // another part's
		{false, []code.Ins{{Op: code.Jump, A: 1}}},            // a function's
		{false, []code.Ins{get, get, {Op: code.Jump, A: at}}}, // another stack
		{false, []code.Ins{iter, {Op: code.Jump, A: at}}},     // another count of keys
		{false, []code.Ins{{Op: code.Drop}}},                  // no keys
		{false, []code.Ins{{Op: code.Step, A: at}}},           // no keys
		{true, []code.Ins{iter, {Op: code.Drop}}},             //
		{false, []code.Ins{iter, {Op: code.Drop}, {Op: code.Drop}}},
		{true, []code.Ins{iter, {Op: code.Step, A: at + 4}, pop, {Op: code.Jump, A: at + 1}, {Op: code.Drop}}},
		{false, []code.Ins{iter, {Op: code.Step, A: at + 4}, {Op: code.Jump, A: at + 1}, exit}},
		{false, []code.Ins{iter, {Op: code.Step, A: at + 2}, pop}}, // both ways behind it
		{true, []code.Ins{iter, {Op: code.Step, A: at + 1}, pop}},  // to itself
		{true, []code.Ins{get, {Op: code.JumpNot, A: at + 2}, exit}},
		{false, []code.Ins{get, {Op: code.JumpNot, A: at + 2}, pop}},
		{true, []code.Ins{get, {Op: code.JumpNot, A: at + 3}, exit, get, {Op: code.Exit, A: 1}}},
		{true, []code.Ins{exit, {Op: code.Drop}, {Op: 99}, {Op: code.Num, A: 99}}}, // what isn't met
		{false, []code.Ins{{Op: code.Jump, A: at + 2}, exit, {Op: 99}}},
	} {
		p := world()
		p.Begin = at
		p.Code = append(append(p.Code, x.l...), exit)
		if agree(t, p) != x.want {
			t.Errorf("%d: %v: want %v", i, x.l, x.want)
		}
		// Without anything behind it, it may not go on.
		p.Code = p.Code[:len(p.Code)-1]
		agree(t, p)
	}
}

// P15.2: the first steps have to be there, and each to be one part's alone.
func TestFirstSteps(t *testing.T) {
	size := len(world().Code)
	for part := range 7 {
		for _, at := range []int{math.MinInt, -2, -1, 0, 1, 2, 3, 4, 5, 6, size, size + 1, math.MaxInt} {
			p := world()
			begin(p, part, at)
			own := at == []int{5, 6, 0, 1, 2, 3, 4}[part]
			if agree(t, p) != own {
				t.Errorf("part %d at %d: want %v", part, at, own)
			}
		}
	}
	p := world()
	p.Funcs = append(p.Funcs, code.Func{Entry: 4})
	if agree(t, p) {
		t.Error("two functions that begin at one step are taken")
	}
	p.Funcs = nil
	if !agree(t, p) {
		t.Error("a program of no functions isn't taken")
	}
	p.Code = nil
	if agree(t, p) {
		t.Error("a program of no steps is taken")
	}
	if agree(t, &code.Program{}) {
		t.Error("the empty program is taken")
	}
	p = world()
	p.Code = append(p.Code, code.Ins{Op: code.Num}, code.Ins{Op: code.Return})
	p.Funcs[0].Entry, p.Funcs[1].Entry = 7, 8
	if agree(t, p) {
		t.Error("a step of two functions is taken")
	}
}
