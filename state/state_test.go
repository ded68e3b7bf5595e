package state_test

import (
	"math/rand"
	"testing"

	"scribe/api"
	"scribe/state"
	"scribe/vm"
)

// enough steps for most runs here.
const enough = 20000

// there: the state of a machine, written and read.
func there(t *testing.T, x run, m *vm.Machine) (string, vm.State) {
	t.Helper()
	text := state.Write(m.State)
	s, e := state.Read(text, x.p, x.in)
	if e != api.OK {
		t.Fatalf("%q behind %d: Read(%q): %d", x.source, m.Steps, text, e)
	}
	if again := state.Write(s); again != text {
		t.Fatalf("%q behind %d: %q, again %q", x.source, m.Steps, text, again)
	}
	for _, l := range []vm.State{m.State, s} {
		if e := state.Good(l, x.p, x.in); e != api.OK {
			t.Fatalf("%q behind %d: Good: %d", x.source, m.Steps, e)
		}
	}
	return text, s
}

// checkBack: a machine that is written and read behind so many steps goes on as the first one does.
func checkBack(t *testing.T, x run, at, more int) {
	t.Helper()
	m, out := x.behind(at)
	_, s := there(t, x, m)
	other := sheets{}
	for name, text := range out {
		other[name] = text
	}
	r := vm.Restore(x.p, x.in, other.output(), s)
	for range 3 {
		m.Run(more)
		r.Run(more)
		if !alike(m, r, out, other) {
			t.Fatalf("%q behind %d and %d more: %q, %q", x.source, at, more, out, other)
		}
		if one, two := state.Write(m.State), state.Write(r.State); one != two {
			t.Fatalf("%q behind %d and %d more: %q, %q", x.source, at, more, one, two)
		}
	}
	m.Run(enough)
	r.Run(enough)
	if !alike(m, r, out, other) || state.Write(m.State) != state.Write(r.State) {
		t.Fatalf("%q behind %d, at the end: %q, %q", x.source, at, out, other)
	}
}

// P18.1: there and back at each step of runs.
func TestThereAndBack(t *testing.T) {
	r := rand.New(rand.NewSource(18))
	for _, x := range samples(t) {
		m, _ := x.behind(enough)
		for at := 0; at <= m.Steps+1; at++ {
			checkBack(t, x, at, 1+r.Intn(20))
		}
	}
}

// P18.1: there and back at some steps of random runs.
func TestRandomThereAndBack(t *testing.T) {
	r := rand.New(rand.NewSource(19))
	calls, keys, over := 0, 0, 0
	for range 400 {
		x := randomRun(t, r)
		m, _ := x.behind(enough)
		for range 20 {
			at := r.Intn(m.Steps + 2)
			checkBack(t, x, at, 1+r.Intn(50))
			now, _ := x.behind(at)
			calls += min(1, len(now.Frames))
			keys += min(1, len(now.Keys))
			if now.Over() {
				over++
			}
		}
	}
	if calls < 1000 || keys < 1000 || over < 50 {
		t.Errorf("%d in calls, %d within keys, %d over", calls, keys, over)
	}
}

// P18.1: a run that is written and read ahead of each piece says the same.
func TestOverAndOver(t *testing.T) {
	for _, x := range samples(t) {
		whole, want := x.behind(enough)
		for every := 1; every < 30; every += 4 {
			out := sheets{}
			m := vm.New(x.p, x.in, out.output())
			for !m.Over() && m.Steps < enough {
				m.Run(every)
				_, s := there(t, x, m)
				m = vm.Restore(x.p, x.in, out.output(), s)
			}
			if !alike(m, whole, out, want) {
				t.Errorf("%q, every %d steps: %q, want %q", x.source, every, out, want)
			}
		}
	}
}

// P18.1: the chapter's example.
func TestExample(t *testing.T) {
	x := newRun(t, "{print $2,$1;n[$1]++} END{for(k in n)print k,n[k]}", "a 1\nb 2\na 3\n")
	m, out := x.behind(7)
	s, e := state.Read(state.Write(m.State), x.p, x.in)
	if e != api.OK {
		t.Fatalf("Read: %d", e)
	}
	r := vm.Restore(x.p, x.in, out.output(), s)
	r.Run(enough)
	if out["stdout"] != "1 a\n2 b\n3 a\na 2\nb 1\n" || !r.Over() {
		t.Errorf("%q", out)
	}
}
