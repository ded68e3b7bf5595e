package script_test

import (
	"testing"

	"scribe/api"
	"scribe/disk"
	"scribe/job"
	"scribe/script"
	"scribe/vm"
)

// example: the job of the examples of the whole, over the file in with "a 1" and "b 2".
func example(t *testing.T, source string, interval int) *script.World {
	t.Helper()
	return over(source, "in", "a 1\nb 2\n").world(t, interval)
}

const exampleSource = "{n+=$2} END{print n/NR}"

// The chapter's example: a world that dies, and Finish.
func TestExampleWorld(t *testing.T) {
	w := example(t, "{print $1}", 5)
	if r := w.Finish(room, enough); r.Err != api.OK || !r.Over {
		t.Errorf("Finish: %+v", r)
	}
	isFiles(t, w, "stdout", "a\nb\n")
	w = example(t, "{print $1}", 5)
	plays(t, w, "start\narm 3\nrun 100", "ok ok dead", script.Result{Err: api.ErrDead})
	if r := w.Finish(room, enough); r.Err != api.OK || !r.Over {
		t.Errorf("Finish: %+v", r)
	}
	isFiles(t, w, "stdout", "a\nb\n")
}

// Examples 1 and 2 of the whole.
func TestExampleOfTheWhole1And2(t *testing.T) {
	w := example(t, exampleSource, 5)
	w.Play([]script.Step{{Kind: script.Start}, {Kind: script.Run, N: 1000}})
	isFiles(t, w, "stdout", "1.5\n")
	for _, x := range []struct {
		source string
		at     int
		e      api.Errno
	}{{"BEGIN{x=}", 8, api.ErrSyntax}, {"{print | \"sh\"}", 7, api.ErrBan}, {"BEGIN{a[1]=1;print a}", 19, api.ErrKind}} {
		w := example(t, x.source, 5)
		if r := w.Do(script.Step{Kind: script.Start}); r != (script.Result{Err: x.e}) {
			t.Errorf("%q: %+v", x.source, r)
		}
		isFiles(t, w)
		if _, at, e := job.Start(disk.New(room), job.Spec{Source: x.source, Interval: 5}); at != x.at || e != x.e {
			t.Errorf("%q: %d at %d", x.source, e, at)
		}
	}
}

// Examples 3 and 4 of the whole: a checkpoint at the start, behind each five steps, and at the end.
func TestExampleOfTheWhole3And4(t *testing.T) {
	n := len(over(exampleSource, "in", "a 1\nb 2\n").moments(t)) - 1
	for at := range n + 1 {
		w := example(t, exampleSource, 5)
		w.Play([]script.Step{{Kind: script.Start}, {Kind: script.Run, N: at}, {Kind: script.Crash}})
		want := at - at%5
		if at == n {
			want = n
		}
		if r := w.Do(script.Step{Kind: script.Start}); r.Steps != want {
			t.Errorf("behind %d steps: %+v", at, r)
		}
	}
	w := example(t, exampleSource, 5)
	plays(t, w, "start\narm 8\nrun 1000", "ok ok dead", script.Result{Err: api.ErrDead})
	plays(t, w, "crash\nstart\nrun 1000", "ok ok ok", script.Result{Steps: n, Over: true})
	isFiles(t, w, "stdout", "1.5\n")
}

// Examples 5 and 6 of the whole: what was printed behind the checkpoint is cut off, a file that was made behind it is removed.
func TestExampleOfTheWhole5And6(t *testing.T) {
	x := over("BEGIN{printf \"ab\";while(i<4)i++;printf \"cdef\";printf \"x\" > \"new\";while(i<100)i++;printf \"!\"}")
	l := x.moments(t)
	made := 0
	for len(l[made].files) < 2 {
		made++
	}
	w := x.world(t, 10)
	w.Play([]script.Step{{Kind: script.Start}, {Kind: script.Run, N: made}, {Kind: script.Crash, Keeps: []int{0, 1, 2}, Names: true}})
	isFiles(t, w, "new", "x", "stdout", "abcd")
	plays(t, w, "start", "ok", script.Result{Steps: made / 10 * 10})
	isFiles(t, w, "stdout", "ab")
	plays(t, w, "run 1000", "ok", script.Result{Steps: len(l) - 1, Over: true})
	isFiles(t, w, "new", "x", "stdout", "abcdef!")
}

// Example 7 of the whole.
func TestExampleOfTheWhole7(t *testing.T) {
	w := example(t, exampleSource, 5)
	plays(t, w, "start\nquota 150\nrun 1000\nquota 100000", "ok ok full ok", script.Result{})
	got, r := play(t, w, "start\nrun 1000")
	if got != "ok ok" || !r.Over {
		t.Errorf("with more room: %s, %+v", got, r)
	}
	isFiles(t, w, "stdout", "1.5\n")
}

// Example 8 of the whole.
func TestExampleOfTheWhole8(t *testing.T) {
	w := example(t, exampleSource, 5)
	w.Finish(room, enough)
	plays(t, w, "spoil other bytes\nstart", "ok ok", script.Result{})
	isFiles(t, w, "stdout", "1.5\n")
	if r := w.Do(script.Step{Kind: script.Run, N: 1000}); !r.Over || r.Ended != api.ErrRun {
		t.Errorf("Run: %+v", r)
	}
	isFiles(t, w, "stdout", "1.5\n")
}

// Examples 9 and 10 of the whole.
func TestExampleOfTheWhole9And10(t *testing.T) {
	w := example(t, "{print > \"in\"}", 5)
	r := w.Finish(room, enough)
	if r.Err != api.OK || !r.Over || r.Ended != api.ErrRun {
		t.Errorf("Finish: %+v", r)
	}
	isFiles(t, w)
	w = newWorld(t, job.Spec{Source: exampleSource, Interval: 5}, []vm.File{{Name: "in", Text: "a 1\nb 2\n"}}, room)
	r = w.Finish(room, enough)
	done := w.Done
	// It does no deed either: the disk would die.
	plays(t, w, "quota 0\narm 0\nstart\nrun 1000\nstart", "ok ok ok ok ok", r)
	if w.Done != done {
		t.Errorf("%d steps more", w.Done-done)
	}
	isFiles(t, w, "stdout", "1.5\n")
}
