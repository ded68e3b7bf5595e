package script_test

import (
	"math"
	"slices"
	"testing"

	"scribe/api"
	"scribe/job"
	"scribe/script"
	"scribe/vm"
)

// P2: what New is handed isn't changed, nor what lies behind it, and may be changed behind the call (K3).
func TestOwnSpec(t *testing.T) {
	x := over("{print FILENAME,$0}", "a", "1\n2", "b", "3", "c", "4")
	inputs := []string{"b", "spare", "spare", "spare", "spare"}
	in := append(slices.Clone(x.in), vm.File{Name: "spare", Text: "5"})
	spec := job.Spec{Source: x.source, Inputs: inputs[:1], Interval: 4}
	v, w := newWorld(t, spec, in[:3], room), newWorld(t, spec, in[1:3], room)
	if !slices.Equal(inputs, []string{"b", "spare", "spare", "spare", "spare"}) || !slices.Equal(in[:3], x.in) || in[3].Name != "spare" || spec.Source != x.source || spec.Interval != 4 || len(spec.Inputs) != 1 {
		t.Errorf("changed: %q, %q, %+v", inputs, in, spec)
	}
	for i := range inputs {
		inputs[i] = "spoilt"
	}
	for i := range in {
		in[i] = vm.File{Name: "spoilt", Text: "spoilt"}
	}
	spec = job.Spec{}
	for range 2 {
		v.Finish(room, enough)
		w.Finish(room, enough)
		isFiles(t, v, "stdout", "b 3\na 1\na 2\nb 3\nc 4\n")
		isFiles(t, w, "stdout", "b 3\nb 3\nc 4\n")
	}
}

// P2: steps that are handed in aren't changed, nor what lies behind their numbers (K3).
func TestOwnSteps(t *testing.T) {
	x, _ := mean(t)
	numbers := []int{5, -7, 1, 9, 9}
	l := []script.Step{{Kind: script.Start}, {Kind: script.Run, N: 8}, {Kind: script.Crash, Keeps: numbers[:3]}, {Kind: script.Crash, Keeps: numbers[1:2], Names: true}, {Kind: 9, Keeps: numbers}, {Kind: script.Spoil, Text: "a"}, {Kind: 2}}
	was := slices.Clone(l)
	w := x.world(t, 5)
	w.Play(l[:6])
	for _, s := range l[:6] {
		w.Do(s)
	}
	if !slices.Equal(numbers, []int{5, -7, 1, 9, 9}) || !slices.EqualFunc(l, was, same) {
		t.Errorf("changed: %v, %+v", numbers, l)
	}
}

// P2: what is answered may be changed, up to the end of its room, and nothing of it shows (K3).
func TestOwnAnswers(t *testing.T) {
	x := over("{print;print NR > (\"o\" NR%2)}", "in", "a\nb\nc\n")
	l := x.moments(t)
	spoil := func(w *script.World) {
		files := w.Files()
		files = files[:cap(files)]
		for i := range files {
			files[i] = vm.File{Name: "spoilt", Text: "spoilt"}
		}
	}
	v, w := x.world(t, 3), x.world(t, 3)
	steps := []script.Step{{Kind: script.Start}, {Kind: script.Run, N: 20}, {Kind: script.Crash}, {Kind: script.Start}, {Kind: script.Run, N: math.MaxInt}}
	for _, s := range steps {
		r := v.Play([]script.Step{s})
		if also := w.Do(s); len(r) != 1 || r[0] != also {
			t.Errorf("%+v: %+v, want %+v", s, r, also)
		}
		r[0] = script.Result{Steps: -1}
		spoil(v)
		if !slices.Equal(v.Files(), w.Files()) {
			t.Errorf("behind %+v: %q, want %q", s, v.Files(), w.Files())
		}
	}
	if !slices.Equal(v.Files(), l[len(l)-1].files) {
		t.Errorf("Files: %q", v.Files())
	}
}

// P20.3: the same script, played in two worlds, has the same results and the same files, Starts and Done (K4).
func TestSameScript(t *testing.T) {
	each(t, large(), func(t *testing.T, x plan, _ []moment) {
		for seed := range numbers(20) {
			n := seed
			var l []script.Step
			for range 60 {
				l = append(l, n.step())
			}
			var first *script.World
			var results []script.Result
			for range 3 {
				w := x.world(t, 5)
				got := w.Play(l)
				if first == nil {
					first, results = w, got
				} else if !slices.Equal(got, results) || !slices.Equal(w.Files(), first.Files()) || w.Starts != first.Starts || w.Done != first.Done {
					t.Fatalf("%q: %+v: %+v, and once more %+v", x.source, l, results, got)
				}
			}
		}
	})
}

// P20.3: worlds don't know of one another.
func TestWorldsApart(t *testing.T) {
	x, n := mean(t)
	v, w := x.world(t, 5), x.world(t, 5)
	play(t, v, "start\nrun 7\narm 0")
	plays(t, w, "run 1\nstart\nrun 1000", "none ok ok", ended(n, 3))
	plays(t, v, "run 1000", "dead", script.Result{Err: api.ErrDead})
	isFiles(t, w, "stdout", "1.5\n")
	isFiles(t, v)
}
