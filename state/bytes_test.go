package state_test

import (
	"math/rand"
	"reflect"
	"slices"
	"strings"
	"testing"

	"scribe/api"
	"scribe/array"
	"scribe/pack"
	"scribe/state"
	"scribe/vm"
)

// isNothing: is it the zero State?
func isNothing(s vm.State) bool {
	return reflect.DeepEqual(s, vm.State{})
}

// checkBytes reads any bytes: there is an error and the zero State, or a state that is good and whose machine runs. Was there one?
func checkBytes(t *testing.T, x run, text string) bool {
	t.Helper()
	s, e := state.Read(text, x.p, x.in)
	if e != api.OK {
		if !slices.Contains([]api.Errno{api.ErrEnd, api.ErrForm, api.ErrBig, api.ErrDeep}, e) || !isNothing(s) {
			t.Fatalf("%q: Read(%q): %d, %v", x.source, text, e, s)
		}
		return false
	}
	if e := state.Good(s, x.p, x.in); e != api.OK {
		t.Fatalf("%q: Read(%q): a state that isn't good: %d", x.source, text, e)
	}
	checkRuns(t, x, s)
	return true
}

// checkRuns: a machine of a state goes on without panic, whatever it does, and its states are good, too, as long as an int counts its steps.
func checkRuns(t *testing.T, x run, s vm.State) {
	t.Helper()
	m := vm.Restore(x.p, x.in, sheets{}.output(), s)
	for i := 0; i < 3 && !m.Over(); i++ {
		m.Run(70)
		if e := state.Good(m.State, x.p, x.in); e != api.OK && m.Steps >= 0 {
			t.Fatalf("%q: Good: %d behind %d more steps", x.source, e, 70*(i+1))
		}
	}
	m.Run(500)
}

// points: a few machines of each sample, at many steps.
func points(t *testing.T, apart int, do func(x run, m *vm.Machine)) {
	for _, x := range samples(t) {
		whole, _ := x.behind(enough)
		for at := 0; at <= whole.Steps; at += apart {
			m, _ := x.behind(at)
			do(x, m)
		}
		m, _ := x.behind(enough)
		do(x, m)
	}
}

// P18.2: bytes that are cut off at any place aren't read, nor such as others follow.
func TestCutBytes(t *testing.T) {
	points(t, 13, func(x run, m *vm.Machine) {
		text := state.Write(m.State)
		for i := range text {
			if s, e := state.Read(text[:i], x.p, x.in); e != api.ErrEnd || !isNothing(s) {
				t.Fatalf("%q: Read of %d bytes of %q: %d", x.source, i, text, e)
			}
		}
		for _, behind := range []string{"\x00", "i", ")", "(", "0", ";", "i0;", "0:", text} {
			if s, e := state.Read(text+behind, x.p, x.in); e != api.ErrForm || !isNothing(s) {
				t.Fatalf("%q: Read(%q): %d", x.source, text+behind, e)
			}
			if s, e := state.Read(behind+text, x.p, x.in); e == api.OK || !isNothing(s) {
				t.Fatalf("%q: Read(%q): %d", x.source, behind+text, e)
			}
		}
	})
}

// P18.2: bytes of which one is another, at each place.
func TestChangedBytes(t *testing.T) {
	read := 0
	points(t, 61, func(x run, m *vm.Machine) {
		text := []byte(state.Write(m.State))
		for i, was := range text {
			for _, c := range []byte{'0', '1', '4', '9', '-', ';', ':', '(', ')', 'i', was + 1, was ^ 0x80} {
				text[i] = c
				if c != was && checkBytes(t, x, string(text)) {
					read++
				}
			}
			text[i] = was
		}
	})
	if read < 1000 {
		t.Errorf("%d were read", read)
	}
}

// P18.2: bytes with a number or a text exchanged, with a thing taken out or put in, or in another's place.
func TestChangedThings(t *testing.T) {
	r := rand.New(rand.NewSource(20))
	read := 0
	points(t, 3, func(x run, m *vm.Machine) {
		for range 20 {
			if checkBytes(t, x, changed(r, state.Write(m.State))) {
				read++
			}
		}
	})
	if read < 500 {
		t.Errorf("%d were read", read)
	}
}

// things: where a text's things begin and end, those within lists too.
func things(text string, from int, l [][2]int) [][2]int {
	for at, thing := range pack.Things(text) {
		l = append(l, [2]int{from + at, from + at + len(thing)})
		if thing[0] == '(' {
			l = things(thing[1:len(thing)-1], from+at+1, l)
		}
	}
	return l
}

// changed: bytes with a few of their things changed.
func changed(r *rand.Rand, text string) string {
	for range 1 + r.Intn(3) {
		l := things(text, 0, nil)
		one, two := l[r.Intn(len(l))], l[r.Intn(len(l))]
		thing := text[two[0]:two[1]]
		switch r.Intn(5) {
		case 0:
			thing = ""
		case 1:
			thing = "i" + []string{"0", "1", "2", "3", "4", "5", "6", "7", "9", "12", "-1", "300", "9223372036854775807", "-9223372036854775808", "4611686018427387904"}[r.Intn(15)] + ";"
		case 2:
			thing = []string{"0:", "1:a", "2:10", "()", "(i0;)", "i5;"}[r.Intn(6)]
		case 3:
			thing = text[one[0]:one[1]] + thing
		}
		text = text[:one[0]] + thing + text[one[1]:]
		if text == "" {
			return text
		}
	}
	return text
}

// P18.2: the empty text, texts of bytes alone, things that are no state.
func TestForeignBytes(t *testing.T) {
	r := rand.New(rand.NewSource(21))
	deep := strings.Repeat("(", 61)
	for _, x := range samples(t) {
		for _, text := range []string{"", " ", "(", ")", "()", "i0;", "2:ab", "scribe", "\x00", "\xff\xff", deep, deep + strings.Repeat(")", 61), "(i0;i0;i0;i0;i0;i0;i0;i0;i0;i0;()0:0:()0:0:0:()0:0:()()()())", "(i3;i0;i0;i0;i0;i0;i0;i0;i0;i0;()0:0:()0:0:0:()0:0:()()()())", "(99999999999999999999:", "(i99999999999999999999;", "(999999:a", "(i-0;", "(i3;i0;i0;i0;i0;i999;i0;i0;i0;i0;()0:0:()0:0:0:()0:0:()()()())", "(i2;i0;i0;i0;i0;i0;i0;i0;i0;i0;()0:0:()0:0:0:()0:0:()()()())"} {
			checkBytes(t, x, text)
		}
		for range 300 {
			s := make([]byte, r.Intn(60))
			for i := range s {
				s[i] = "(()i0123456789;;:-ab"[r.Intn(20)]
			}
			checkBytes(t, x, string(s))
			checkBytes(t, x, "("+strings.Repeat("i0;", r.Intn(12))+string(s)+")")
		}
	}
	x := samples(t)[0]
	if s, e := state.Read("", x.p, x.in); e != api.ErrEnd || !isNothing(s) {
		t.Errorf("Read of nothing: %d", e)
	}
}

// P18.2: things that a machine's state has elsewhere: an array in a variable's place, a value that isn't there yet, keys of loops that aren't there, an array twice.
func TestMisplacedThings(t *testing.T) {
	x := newRun(t, "BEGIN{m[1];m[2]=x=5.5;for(k in m)for(j in m)y=x}")
	m, _ := x.behind(0)
	for len(m.Keys) < 2 {
		m.Run(1)
	}
	text := state.Write(m.State)
	for _, change := range [][]string{
		{"()13:\x05", "()13:\x07"}, {"()13:\x05", "()13:\xff"}, {"()13:\x05", "()13:\x04", "6:\x00\x02", "6:\x12\x02"}, {"6:\x00\x02", "6:\x00\x7f"}, {"6:\x00\x02", "6:\x00\x06"}, {"6:\x00\x02", "6:\x00\x01"},
		{"6:\x00\x02\xc0\xb1\x9f\x05", "2:\x00\x02"}, {"6:\x00\x02\xc0\xb1\x9f\x05", "7:\x00\x02\xc0\xb1\x9f\x05\x00"}, {"6:\x00\x02\xc0\xb1\x9f\x05", "6:\x00\x02\xc0\xb1\x9f\x85"}, {"6:\x00\x02\xc0\xb1\x9f\x05", "0:"},
		{"(1: 1:\n1:1)0:", "(1: 1:\n)0:"}, {"(1: 1:\n1:1)0:", "(1: 1:\n1:11:x)0:"}, {"(1: 1:\n1:1)0:", "()0:"}, {")0:0:0:()", ")0:1:\x041:\x12()"}, {")0:0:0:()0:0:()", ")0:0:0:()1:\x041:\x12()"}, {")0:0:0:()0:0:()", ")0:0:0:()1:\x000:()"},
		{"i1;i-1;(1:11:2)", "i1;i1;"}, {"i1;i-1;(1:11:2)", "i1;i0;"}, {"i0;i0;)(i9;", "i0;i2;)(i9;"}, {"i0;i0;)(i9;", "i0;i0;i0;i0;)(i9;"}, {"i0;i0;)(i9;", ")(i9;"},
		{"(i9;(1:1", "(i8;(1:1"}, {"(i9;(1:1", "(i10;(1:1"}, {"(i9;(1:1", "(i-9;(1:1"}, {"2:\x00\x061:\x06()", "2:\x00\x041:\x12()"}, {"2:\x00\x061:\x06()", "1:\x000:()"}, {"2:\x00\x061:\x06()", "3:\x00\x06\x001:\x06()"}, {"(1:11:2)2:", "(1:11:1)2:"}, {"2:\x00\x061:\x06()", "2:\x00\x061:\x06()i9;(1:3)1:\x000:()"}, {"2:\x00\x061:\x06()", "2:\x00\x061:\x06()i9;(1:11:2)2:\x00\x061:\x06()"},
	} {
		other := strings.NewReplacer(change...).Replace(text)
		if s, e := state.Read(other, x.p, x.in); other == text || e != api.ErrForm || !isNothing(s) {
			t.Errorf("Read(%q): %d", other, e)
		}
	}
}

// P2: Write, Read and Good change nothing that they are handed, and answer the same each time; what Read answers is its own (K3, K4).
func TestNothingChanges(t *testing.T) {
	points(t, 7, func(x run, m *vm.Machine) {
		text := state.Write(m.State)
		one, _ := state.Read(text, x.p, x.in)
		two, _ := state.Read(text, x.p, x.in)
		state.Good(one, x.p, x.in)
		if state.Write(one) != text || state.Write(m.State) != text || !reflect.DeepEqual(x.p, newRun(t, x.source).p) {
			t.Fatalf("%q behind %d: something is changed", x.source, m.Steps)
		}
		spoil(&one)
		if state.Write(two) != text || state.Write(m.State) != text {
			t.Fatalf("%q behind %d: shared", x.source, m.Steps)
		}
		// No two lists of one answer share their memory.
		for i, k := range two.Keys {
			for j := range k.L {
				k.L[j] = "spoilt"
			}
			for _, other := range two.Keys[i+1:] {
				if slices.Contains(other.L, "spoilt") {
					t.Fatalf("%q behind %d: keys share memory", x.source, m.Steps)
				}
			}
		}
	})
}

// spoil changes all that a state's lists and maps have.
func spoil(s *vm.State) {
	for i := range s.Stack {
		s.Stack[i].Ref = 99
	}
	for i := range s.Globals {
		s.Globals[i].S = "spoilt"
	}
	for i := range s.Opened {
		s.Opened[i] = "spoilt"
	}
	for _, f := range s.Frames {
		for i := range f.Locals {
			f.Locals[i].Ref = 99
		}
		for i := range f.Own {
			f.Own[i] = 99
		}
	}
	for _, k := range s.Keys {
		for i := range k.L {
			k.L[i] = "spoilt"
		}
	}
	for _, a := range s.Arrays {
		a.Clear()
	}
	s.Arrays[99] = &array.Array{}
}
