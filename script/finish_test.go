package script_test

import (
	"math"
	"strings"
	"testing"

	"scribe/api"
	"scribe/job"
	"scribe/script"
	"scribe/vm"
)

// P20.2: Finish behind one thing or another, and twice.
func TestFinish(t *testing.T) {
	x, n := mean(t)
	for ahead, starts := range map[string]int{
		"": 0, "start": 1, "start\nrun 7": 1, "start\nrun 1000": 1, "run 9": 0, "arm 0": 0, "arm 3\nstart": 1, "start\narm 0": 1, "start\narm 2\nrun 1000": 1, "start\narm 2\nrun 1000\nrun 1": 1,
		"crash": 0, "crash names 1 2": 0, "start\nrun 9\ncrash": 1, "start\nrun 9\ncrash names 9 9 9": 1, "start\narm 9\nrun 1000\ncrash names": 1, "start\narm 9\nrun 1000\ncrash\narm 3\nstart": 2,
		"quota 0": 0, "quota -1\nstart": 1, "start\nquota 0\nrun 1000": 1, "start\nrun 5\nquota 0\nstart\nrun 9\nstart": 3,
		"spoil a": 0, "spoil ": 0, "start\nrun 7\nspoil a": 1, "arm 2\nstart\nspoil scribe 1 ": 1, "arm 2\nstart\nspoil x\ncrash": 1,
	} {
		w := x.world(t, 5)
		play(t, w, ahead)
		for twice := range 2 {
			if r := w.Finish(room, enough); r != ended(n, 3) || w.Starts != starts+1+twice {
				t.Errorf("behind %q: %+v, %d starts", ahead, r, w.Starts)
			}
			isFiles(t, w, "stdout", "1.5\n")
		}
		if !strings.Contains(ahead, "spoil") && w.Done > n+starts*5 {
			t.Errorf("behind %q: %d steps", ahead, w.Done)
		}
		plays(t, w, "run 5", "ok", ended(n, 3))
	}
}

// P20.2: with too little room Start's error, or that of Run; with too little fuel a job that runs, and isn't over.
func TestFinishWithTooLittle(t *testing.T) {
	x, n := mean(t)
	full := map[api.Errno]int{}
	for quota := -2; quota < 1200; quota++ {
		w := x.world(t, 5)
		r := w.Finish(quota, enough)
		full[r.Err]++
		if r != ended(n, 3) && r != (script.Result{Err: api.ErrFull}) || r.Err == api.OK && len(w.Files()) != 1 || quota < 100 && w.Done > 0 {
			t.Fatalf("quota %d: %+v, %d steps", quota, r, w.Done)
		}
		if r.Err != api.OK {
			plays(t, w, "run 1", "none", script.Result{Err: api.ErrNone})
		}
		if r := w.Finish(room, enough); r != ended(n, 3) || w.Done > n+5 {
			t.Fatalf("behind quota %d: %+v, %d steps", quota, r, w.Done)
		}
	}
	if full[api.ErrFull] < 100 || full[api.OK] < 100 {
		t.Errorf("%v", full)
	}
	for fuel := -2; fuel <= n+2; fuel++ {
		w := x.world(t, 5)
		want, did := script.Result{Steps: max(fuel, 0)}, min(max(fuel, 0), n)
		if fuel >= n {
			want = ended(n, 3)
		}
		if r := w.Finish(room, fuel); r != want || w.Done != did || w.Starts != 1 {
			t.Errorf("fuel %d: %+v, %d steps", fuel, r, w.Done)
		}
		if fuel < n-3 {
			plays(t, w, "run 2", "ok", script.Result{Steps: did + 2})
		}
	}
	w := x.world(t, 5)
	w.Finish(room, 7)
	if r := w.Finish(room, math.MinInt); r != (script.Result{Steps: 5}) {
		t.Errorf("no fuel: %+v", r)
	}
	if r := w.Finish(room, math.MaxInt); r != ended(n, 3) || w.Done != n+2 {
		t.Errorf("with fuel: %+v, %d steps", r, w.Done)
	}
}

// P20.2: the quota stays, the disk isn't armed any more; of a dead disk the names are as they were safe.
func TestFinishLeaves(t *testing.T) {
	x, n := mean(t)
	w := x.world(t, 5)
	w.Do(script.Step{Kind: script.Arm, N: 0})
	w.Finish(300, 0)
	plays(t, w, "run 1000", "full", script.Result{Err: api.ErrFull})
	w.Do(script.Step{Kind: script.Quota, N: room})
	plays(t, w, "start\nrun 1000", "ok ok", ended(n, 3))
	// A checkpoint's last deed makes the names safe: it is the fourth one, as long as no file is made.
	for _, y := range []struct {
		crash string
		want  int
	}{{"", 0}, {"crash", 0}, {"crash names", 5}} {
		w = x.world(t, 5)
		plays(t, w, "start\narm 3\nrun 5", "ok ok dead", script.Result{Err: api.ErrDead})
		play(t, w, y.crash)
		if r := w.Finish(room, 0); r != (script.Result{Steps: y.want}) {
			t.Errorf("behind %q: %+v, want %d steps", y.crash, r, y.want)
		}
	}
}

// P20.2: Files: what the job made, by rising names; neither the journal's files nor the inputs; none of a dead disk.
func TestFiles(t *testing.T) {
	x := over("{print > $1} END{print 1;print 2 > \"-\";printf \"\" > \"m.\"}", "in", "z\nb\n10\n9\nb\n", "a", "_\n")
	w := x.world(t, 7)
	isFiles(t, w)
	w.Do(script.Step{Kind: script.Start})
	isFiles(t, w)
	w.Finish(room, enough)
	all := []string{"-", "2\n", "10", "10\n", "9", "9\n", "_", "_\n", "b", "b\nb\n", "m.", "", "stdout", "1\n", "z", "z\n"}
	isFiles(t, w, all...)
	play(t, w, "crash")
	isFiles(t, w, all...)
	play(t, w, "spoil a")
	isFiles(t, w, all...)
	// It begins anew, and its files are somebody else's: it ends with an error.
	plays(t, w, "arm 0\nstart", "ok dead", script.Result{Err: api.ErrDead})
	isFiles(t, w)
	if r := w.Finish(room, enough); r.Ended != api.ErrRun {
		t.Errorf("behind Spoil: %+v", r)
	}
	isFiles(t, w, all...)
	// Each number of deeds: journal.new lies there behind many.
	for arm := range 40 {
		w := x.world(t, 1000)
		play(t, w, "start")
		w.Do(script.Step{Kind: script.Arm, N: arm})
		if r := w.Do(script.Step{Kind: script.Run, N: 1000}); r.Err == api.ErrDead {
			isFiles(t, w)
		}
		play(t, w, "crash names 0 0 0 0 0 0 0 0 0 0 0")
		for _, f := range w.Files() {
			if f.Name == "in" || f.Name == "a" || strings.HasPrefix(f.Name, "journal") {
				t.Errorf("armed with %d: %q", arm, f)
			}
		}
	}
}

// P20.2: an input that has the name of a file that is printed to, one that has a name of the journal's.
func TestFilesAndInputs(t *testing.T) {
	w := over("{print > \"o\";print}", "stdout", "a\n").world(t, 5)
	if r := w.Finish(room, enough); r.Ended != api.ErrRun {
		t.Errorf("stdout is an input: %+v", r)
	}
	isFiles(t, w, "o", "a\n")
	for _, name := range []string{"journal", "journal.new"} {
		w := over("1", "in", "a", name, "b").world(t, 5)
		if r := w.Finish(room, enough); r != (script.Result{Err: api.ErrArg}) {
			t.Errorf("%s is an input: %+v", name, r)
		}
		isFiles(t, w)
	}
	w = newWorld(t, job.Spec{Source: "1", Inputs: []string{"b"}, Interval: 5}, []vm.File{{Name: "a", Text: "1"}, {Name: "b", Text: "2"}}, room)
	isFiles(t, w)
	w.Finish(room, enough)
	isFiles(t, w, "stdout", "2\n1\n2\n")
}
