package code_test

import (
	"math/rand"
	"reflect"
	"slices"
	"testing"
	"unsafe"

	"scribe/api"
	"scribe/code"
	"scribe/num"
)

// someStep: one that may stand among so many others, more often a right one than not.
func someStep(r *rand.Rand, size int) code.Ins {
	for {
		x := code.Ins{Op: 1 + r.Intn(34), A: r.Intn(4), B: r.Intn(3)}
		switch x.Op {
		case code.Jump, code.JumpIf, code.JumpNot, code.Step:
			x.A = r.Intn(size)
		case code.Get, code.Set, code.Elem, code.SetElem, code.In, code.Delete, code.Clear, code.Ref, code.Iter:
			x.A = []int{0, 8, 9, 10, 11, r.Intn(13)}[r.Intn(6)]
		case code.Print, code.Printf:
			x.A++
		case code.Exit, code.Stop, code.Next, code.Return:
			if r.Intn(3) > 0 {
				continue
			}
		}
		if r.Intn(100) == 0 {
			x.A, x.B = r.Intn(30)-8, r.Intn(30)-8
		}
		return x
	}
}

// fitting: a step that finds what it takes and that leads to something, if one is found in a few tries.
func fitting(r *rand.Rand, p *code.Program, at, size int, now code.Shape) code.Ins {
	for range 40 {
		p.Code[at] = someStep(r, size)
		if to, ok := leads(p, at, now); ok && (len(to) > 0 || r.Intn(8) == 0) {
			return p.Code[at]
		}
	}
	return someStep(r, size)
}

// grown: a program whose steps are chosen for what lies on the stack where they are met first.
func grown(r *rand.Rand) *code.Program {
	p := world()
	size := len(p.Code) + 5 + r.Intn(30)
	part := r.Intn(7)
	at := len(p.Code)
	begin(p, part, at)
	p.Code = append(p.Code, make([]code.Ins, size-at)...)
	known := map[int]code.Shape{at: {Met: true, Part: part}}
	for ; at < size; at++ {
		now, ok := known[at]
		if !ok {
			p.Code[at] = someStep(r, size)
			continue
		}
		p.Code[at] = fitting(r, p, at, size, now)
		if at == size-1 {
			p.Code[at] = code.Ins{Op: code.Exit}
		}
		to, _ := leads(p, at, now)
		for next, s := range to {
			if _, ok := known[next]; !ok {
				known[next] = s
			}
		}
	}
	return p
}

// P15.2: Check and Shapes of random programs, against the chapter's words.
func TestRandomPrograms(t *testing.T) {
	r := rand.New(rand.NewSource(15))
	taken, refused := 0, 0
	for range 60000 {
		p := grown(r)
		if r.Intn(3) == 0 {
			p.Code[7+r.Intn(len(p.Code)-7)] = someStep(r, len(p.Code))
		}
		if agree(t, p) {
			taken++
		} else {
			refused++
		}
	}
	if taken < 5000 || refused < 5000 {
		t.Errorf("%d are taken, %d are refused", taken, refused)
	}
}

// compiled: the program of a text that is right.
func compiled(t *testing.T, s string) *code.Program {
	t.Helper()
	p, at, e := code.Compile(s)
	if e != api.OK || at != 0 {
		t.Fatalf("Compile(%q): %d at %d", s, e, at)
	}
	return p
}

// copied: a program of its own.
func copied(p *code.Program) *code.Program {
	c := *p
	c.Code, c.Nums, c.Strs = slices.Clone(p.Code), slices.Clone(p.Nums), slices.Clone(p.Strs)
	c.Globals, c.Arrays, c.Funcs = slices.Clone(p.Globals), slices.Clone(p.Arrays), slices.Clone(p.Funcs)
	for i, f := range p.Funcs {
		c.Funcs[i].Arrays = slices.Clone(f.Arrays)
	}
	return &c
}

// changed changes one thing of a program.
func changed(r *rand.Rand, p *code.Program) {
	x := &p.Code[r.Intn(len(p.Code))]
	switch r.Intn(12) {
	case 0, 1:
		*x = someStep(r, len(p.Code))
	case 2, 3:
		x.A += r.Intn(5) - 2
	case 4, 5:
		x.B += r.Intn(5) - 2
	case 6:
		x.Op += r.Intn(5) - 2
	case 7:
		*x = p.Code[r.Intn(len(p.Code))]
	case 8:
		begin(p, r.Intn(3+len(p.Funcs)), r.Intn(len(p.Code)+2)-1)
	case 9:
		p.Code = p.Code[:r.Intn(len(p.Code))]
	case 10:
		i := r.Intn(len(p.Arrays))
		p.Arrays[i] = !p.Arrays[i]
	case 11:
		if len(p.Funcs) > 0 {
			if l := p.Funcs[r.Intn(len(p.Funcs))].Arrays; len(l) > 0 {
				i := r.Intn(len(l))
				l[i] = !l[i]
			}
		}
	}
}

// P15.1, P15.2: programs that Compile makes, and such with one thing changed.
func TestChangedPrograms(t *testing.T) {
	r := rand.New(rand.NewSource(16))
	taken, refused := 0, 0
	for range 3000 {
		p := compiled(t, newWriter(r).program())
		if !agree(t, p) {
			t.Fatal("a program that Compile made isn't taken")
		}
		for range 10 {
			c := copied(p)
			changed(r, c)
			if agree(t, c) {
				taken++
			} else {
				refused++
			}
		}
	}
	if taken < 3000 || refused < 3000 {
		t.Errorf("%d are taken, %d are refused", taken, refused)
	}
}

// P2: Check and Shapes change nothing, and are answered alike each time; what Shapes answers is its own (K3, K4).
func TestNothingChanges(t *testing.T) {
	r := rand.New(rand.NewSource(17))
	for range 300 {
		p := grown(r)
		c := copied(p)
		one, e := code.Shapes(p), code.Check(p)
		two := code.Shapes(p)
		if !reflect.DeepEqual(p, c) || !slices.Equal(one, two) || code.Check(p) != e {
			t.Fatalf("%v: %v, %v", p.Code, one, two)
		}
		for i := range one {
			one[i].Stack = "spoilt"
		}
		if len(two) > 0 && slices.Equal(one, two) {
			t.Fatal("two answers share memory")
		}
	}
}

// P2: two programs of one text are alike, and share no memory with the text or with one another (K3, K4).
func TestProgramsApart(t *testing.T) {
	r := rand.New(rand.NewSource(18))
	for range 300 {
		s := newWriter(r).program()
		one, two := compiled(t, s), compiled(t, s)
		want := copied(two)
		if !reflect.DeepEqual(one, two) {
			t.Fatalf("Compile(%q): %v, %v", s, one, two)
		}
		spoil(one)
		if three, _, _ := code.Compile(s); !reflect.DeepEqual(two, want) || !reflect.DeepEqual(three, want) {
			t.Fatalf("Compile(%q): shared", s)
		}
		from := uintptr(unsafe.Pointer(unsafe.StringData(s)))
		for _, name := range slices.Concat(two.Globals, two.Strs) {
			if at := uintptr(unsafe.Pointer(unsafe.StringData(name))); name != "" && at >= from && at < from+uintptr(len(s)) {
				t.Fatalf("Compile(%q): %q lies in the text", s, name)
			}
		}
	}
}

// spoil changes all of a program, and the room behind its lists.
func spoil(p *code.Program) {
	for i := range p.Code[:cap(p.Code)] {
		p.Code[:cap(p.Code)][i] = code.Ins{Op: -1}
	}
	for i := range p.Nums[:cap(p.Nums)] {
		p.Nums[:cap(p.Nums)][i] = num.Most
	}
	for _, l := range [][]string{p.Strs[:cap(p.Strs)], p.Globals[:cap(p.Globals)]} {
		for i := range l {
			l[i] = "spoilt"
		}
	}
	for i := range p.Arrays[:cap(p.Arrays)] {
		p.Arrays[:cap(p.Arrays)][i] = true
	}
	for i := range p.Funcs {
		f := &p.Funcs[i]
		for k := range f.Arrays[:cap(f.Arrays)] {
			f.Arrays[:cap(f.Arrays)][k] = true
		}
		f.Entry = -1
	}
}
