package script_test

import (
	"math"
	"slices"
	"strings"
	"testing"

	"scribe/api"
	"scribe/disk"
	"scribe/job"
	"scribe/script"
	"scribe/vm"
)

// mean: the plan of most tests here, and how many steps it has: it prints at its end, and its status is 3.
func mean(t *testing.T) (plan, int) {
	t.Helper()
	x := over("{n+=$2} END{print n/NR;exit 3}", "in", "a 1\nb 2\n")
	n := len(x.moments(t)) - 1
	if n < 12 {
		t.Fatalf("%d steps", n)
	}
	return x, n
}

func ended(steps, status int) script.Result {
	return script.Result{Steps: steps, Over: true, Status: status}
}

// P20.2: inputs that can't be: Put's error, and no World.
func TestNewRefused(t *testing.T) {
	good := vm.File{Name: "in", Text: "a"}
	wrong := []vm.File{{Text: "a"}, {Name: "A"}, {Name: "a b"}, {Name: "a/b"}, {Name: "ü"}, {Name: "a\n"}, {Name: strings.Repeat("a", 41)}, {Name: "in", Text: strings.Repeat("a", api.MaxFile+1)}, {Name: "B", Text: strings.Repeat("a", api.MaxFile+1)}}
	for _, f := range wrong {
		for _, in := range [][]vm.File{{f}, {f, good}, {good, f}, {good, f, good, f}} {
			for _, quota := range []int{-1, 0, room} {
				if w, e := script.New(job.Spec{Source: "1", Interval: 1}, in, quota); w != nil || e != api.ErrArg {
					t.Errorf("New with %.50q: %v, %d", f.Name, w, e)
				}
			}
		}
	}
}

// P20.2: inputs of all kinds. What is wrong with the spec is for Start to say.
func TestNew(t *testing.T) {
	for _, x := range []plan{over("1"), over("1", "in", ""), over("1", strings.Repeat("a", 40), "a"), over("1", "-", "a", "0.z_", "b"), over("1", "in", strings.Repeat("a\n", api.MaxFile/2)), over("BEGIN{x="), over("1", "journal", "a"), over("1", "journal.new", "a")} {
		for _, interval := range []int{-1, 0, 1, math.MaxInt} {
			for _, quota := range []int{math.MinInt, -1, 0, 1, room, math.MaxInt} {
				isFiles(t, newWorld(t, x.spec(interval), x.in, quota))
			}
		}
	}
	for _, in := range [][]vm.File{nil, {}} {
		w := newWorld(t, job.Spec{Source: "{print 1} END{print 2}", Interval: 4}, in, room)
		w.Finish(room, enough)
		isFiles(t, w, "stdout", "2\n")
	}
}

// P20.2: the inputs are read in their order, behind those that the spec has; one that is there twice is read twice, as it was laid last.
func TestNewInputs(t *testing.T) {
	const source = "{printf \"%s:%s \",FILENAME,$0}"
	a, b := vm.File{Name: "a", Text: "1\n2"}, vm.File{Name: "b", Text: "3"}
	for _, x := range []struct {
		has  []string
		in   []vm.File
		want string
	}{
		{nil, []vm.File{a, b}, "a:1 a:2 b:3 "},
		{nil, []vm.File{b, a}, "b:3 a:1 a:2 "},
		{[]string{"b"}, []vm.File{a, b}, "b:3 a:1 a:2 b:3 "},
		{[]string{"b", "a", "b"}, []vm.File{b, a}, "b:3 a:1 a:2 b:3 b:3 a:1 a:2 "},
		{nil, []vm.File{a, b, {Name: "a", Text: "4"}}, "a:4 b:3 a:4 "},
		{nil, []vm.File{a, a}, "a:1 a:2 a:1 a:2 "},
		{nil, []vm.File{{Name: "a", Text: "5"}, b, {Name: "b"}}, "a:5 "},
	} {
		w := newWorld(t, job.Spec{Source: source, Inputs: x.has, Interval: 3}, x.in, room)
		if r := w.Finish(room, enough); r.Err != api.OK || !r.Over {
			t.Errorf("%q, %q: %+v", x.has, x.in, r)
		}
		isFiles(t, w, "stdout", x.want)
	}
	w := newWorld(t, job.Spec{Source: source, Inputs: []string{"gone"}, Interval: 3}, []vm.File{a}, room)
	plays(t, w, "start\nrun 1", "none none", script.Result{Err: api.ErrNone})
}

// P20.2: the quota of a new world is the one that Quota would set.
func TestNewQuota(t *testing.T) {
	x, n := mean(t)
	full := 0
	for quota := -2; quota < 2000; quota++ {
		v, w := newWorld(t, x.spec(5), x.in, quota), x.world(t, 5)
		w.Do(script.Step{Kind: script.Quota, N: quota})
		got, last := play(t, v, "start\nrun 1000")
		want, also := play(t, w, "start\nrun 1000")
		if got != want || last != also || quota < 8 && got != "full none" {
			t.Fatalf("quota %d: %s, %+v, want %s, %+v", quota, got, last, want, also)
		}
		if last.Err != api.OK {
			full++
		} else if last != ended(n, 3) {
			t.Fatalf("quota %d: %+v", quota, last)
		}
	}
	if full < 100 || full > 1900 {
		t.Errorf("%d were full", full)
	}
}

// wrongKinds are none.
func wrongKinds() []int {
	return []int{0, 7, 8, -1, -6, math.MinInt, math.MaxInt}
}

// P20.3: each kind where no job runs, behind one thing or another that ended it.
func TestDoWithoutJob(t *testing.T) {
	x, _ := mean(t)
	for _, ahead := range []string{"", "crash", "start\ncrash", "start\nspoil a", "start\narm 2\nrun 1000\ncrash", "start\nquota 0\nrun 1000\nquota 100000", "quota 0\nstart\nquota 100000"} {
		lay := func() *script.World {
			w := x.world(t, 5)
			play(t, w, ahead)
			return w
		}
		for _, n := range []int{math.MinInt, -2, -1, 0, 1, 1000, math.MaxInt} {
			for kind, e := range map[int]api.Errno{script.Run: api.ErrNone, script.Arm: api.OK, script.Quota: api.OK, script.Crash: api.OK, script.Spoil: api.OK} {
				if r := lay().Do(script.Step{Kind: kind, N: n}); r != (script.Result{Err: e}) {
					t.Errorf("behind %q: kind %d with %d: %+v", ahead, kind, n, r)
				}
			}
			if r := lay().Do(script.Step{Kind: script.Start, N: n, Text: "a", Keeps: []int{1}, Names: true}); r != (script.Result{}) {
				t.Errorf("behind %q: Start: %+v", ahead, r)
			}
		}
		for _, kind := range wrongKinds() {
			w := lay()
			if r := w.Do(script.Step{Kind: kind, N: 5}); r != (script.Result{Err: api.ErrArg}) {
				t.Errorf("behind %q: kind %d: %+v", ahead, kind, r)
			}
			plays(t, w, "run 1\nstart\nrun 3", "none ok ok", script.Result{Steps: 3})
		}
	}
}

// P20.3: each kind while a job runs, in the midst of it and when it is over; and whether it runs behind that.
func TestDoWithJob(t *testing.T) {
	x, n := mean(t)
	for _, y := range []struct {
		ahead   string
		at, ago script.Result // there, and at the last checkpoint
	}{
		{"start", script.Result{}, script.Result{}},
		{"start\nrun 3", script.Result{Steps: 3}, script.Result{}},
		{"start\nrun 5", script.Result{Steps: 5}, script.Result{Steps: 5}},
		{"start\nrun 8\narm 30\nquota 9999", script.Result{Steps: 8}, script.Result{Steps: 5}},
		{"start\nrun 1000", ended(n, 3), ended(n, 3)},
		{"start\nrun 1000\ncrash\nstart", ended(n, 3), ended(n, 3)},
	} {
		lay := func() *script.World {
			w := x.world(t, 5)
			if _, r := play(t, w, y.ahead); r != y.at {
				t.Fatalf("behind %q: %+v", y.ahead, r)
			}
			return w
		}
		for _, number := range []int{math.MinInt, -2, -1, 0, 1, 1000, math.MaxInt} {
			for _, kind := range append(wrongKinds(), script.Arm, script.Quota) {
				w, want := lay(), y.at
				if kind != script.Arm && kind != script.Quota {
					want.Err = api.ErrArg
				}
				if r := w.Do(script.Step{Kind: kind, N: number}); r != want {
					t.Errorf("behind %q: kind %d with %d: %+v", y.ahead, kind, number, r)
				}
				if r := w.Do(script.Step{Kind: script.Run}); r != y.at {
					t.Errorf("behind %q, kind %d with %d: Run of 0: %+v", y.ahead, kind, number, r)
				}
			}
		}
		plays(t, lay(), "start", "ok", y.ago)
		plays(t, lay(), "start\nstart\nrun -1", "ok ok ok", y.ago)
		plays(t, lay(), "crash", "ok", script.Result{})
		plays(t, lay(), "crash\nrun 1", "ok none", script.Result{Err: api.ErrNone})
		plays(t, lay(), "crash names 1 2\nstart", "ok ok", y.ago)
		plays(t, lay(), "spoil a", "ok", script.Result{})
		plays(t, lay(), "spoil a\nrun 0", "ok none", script.Result{Err: api.ErrNone})
	}
}

// P20.3: Run of any number: so many steps, and none beyond the end.
func TestRun(t *testing.T) {
	x, n := mean(t)
	w := x.world(t, 5)
	w.Do(script.Step{Kind: script.Start})
	at := 0
	for _, fuel := range []int{0, -1, 1, math.MinInt, 2, 0, 3, 1, 1000, 1, 0, math.MaxInt, -5} {
		did := min(max(fuel, 0), n-at)
		at += did
		want := script.Result{Steps: at}
		if at == n {
			want = ended(n, 3)
		}
		if r := w.Do(script.Step{Kind: script.Run, N: fuel}); r != want || w.Done != at || w.Starts != 1 {
			t.Errorf("Run of %d: %+v, %d done, want %+v", fuel, r, w.Done, want)
		}
	}
}

// P20.3: how a program ended is told, as soon as it is over and as often as it is asked.
func TestEnded(t *testing.T) {
	for _, x := range []struct {
		source string
		status int
		e      api.Errno
	}{
		{"BEGIN{exit}", 0, api.OK}, {"BEGIN{exit 255}", 255, api.OK}, {"BEGIN{exit 256}", 0, api.OK}, {"BEGIN{exit -1}", 255, api.OK}, {"BEGIN{exit 3.9}", 3, api.OK},
		{"BEGIN{print 1/0}", 0, api.ErrRun}, {"BEGIN{$501=1}", 0, api.ErrSize}, {"function f(){f()} BEGIN{f()}", 0, api.ErrDeep}, {"BEGIN{print > \"in\"}", 0, api.ErrRun}, {"BEGIN{print > \"A\"}", 0, api.ErrRun},
	} {
		y := over(x.source, "in", "a")
		n := len(y.moments(t)) - 1
		want := script.Result{Steps: n, Over: true, Status: x.status, Ended: x.e}
		w := y.world(t, 5)
		if _, r := play(t, w, "start\nrun 0"); r.Over || r.Status != 0 || r.Ended != api.OK {
			t.Errorf("%q: over ahead of its end: %+v", x.source, r)
		}
		w.Do(script.Step{Kind: script.Run, N: n - 1})
		plays(t, w, "run 1", "ok", want)
		plays(t, w, "run 1\narm 5\nquota 0\nrun 9\nstart\nrun 9", "ok ok ok ok ok ok", want)
		plays(t, w, "crash\nstart", "ok ok", want)
	}
}

// P20.3: behind an error of Run no job runs, whatever it is.
func TestRunFails(t *testing.T) {
	none := script.Result{Err: api.ErrNone}
	x, _ := mean(t)
	plays(t, x.world(t, 5), "start\narm 2\nrun 1000", "ok ok dead", script.Result{Err: api.ErrDead})
	plays(t, x.world(t, 5), "start\narm 2\nrun 1000\nrun 1\nrun 0\nrun -1", "ok ok dead none none none", none)
	plays(t, x.world(t, 5), "start\nquota 0\nrun 1000", "ok ok full", script.Result{Err: api.ErrFull})
	plays(t, x.world(t, 5), "start\nquota 0\nrun 1000\nrun 1\nquota 100000\nrun 0", "ok ok full none ok none", none)
	long := over("BEGIN{x=sprintf(\"%999s\",1);x=x x x x;while(1)printf \"%s\",x}")
	w := newWorld(t, long.spec(job.MaxInterval), nil, room)
	plays(t, w, "start\nrun 100000\nrun 1", "ok big none", none)
	if r := w.Finish(room, 100000); r != (script.Result{Err: api.ErrBig}) {
		t.Errorf("Finish: %+v", r)
	}
	// What a run that has failed did is gone, but not what was kept ahead of it.
	plays(t, x.world(t, 5), "start\nrun 6\nquota 0\nrun 1000\nstart\nrun 4\nrun 1", "ok ok ok full ok ok full", script.Result{Err: api.ErrFull})
	plays(t, x.world(t, 5), "start\nrun 6\nquota 0\nrun 1000\nquota 1000000\nstart\nrun 4", "ok ok ok full ok ok ok", script.Result{Steps: 9})
}

// P20.3: a Start that is refused, as often as it is tried; it is one all the same, and no job runs.
func TestStartRefused(t *testing.T) {
	for _, x := range []struct {
		spec job.Spec
		e    api.Errno
	}{
		{job.Spec{Source: "1", Interval: 0}, api.ErrArg}, {job.Spec{Source: "1", Interval: -1}, api.ErrArg}, {job.Spec{Source: "1", Interval: job.MaxInterval + 1}, api.ErrArg}, {job.Spec{Source: "1", Interval: 1, Inputs: []string{"journal"}}, api.ErrArg}, {job.Spec{Source: "1", Interval: 1, Inputs: []string{"in", "journal.new"}}, api.ErrArg},
		{job.Spec{Source: "BEGIN{x=}", Interval: 1}, api.ErrSyntax}, {job.Spec{Source: "{print | \"sh\"}", Interval: 1}, api.ErrBan}, {job.Spec{Source: "BEGIN{a[1]=1;print a}", Interval: 1}, api.ErrKind}, {job.Spec{Source: strings.Repeat("x", api.MaxSource+1), Interval: 1}, api.ErrBig}, {job.Spec{Source: "{x=" + strings.Repeat("(", 60), Interval: 1}, api.ErrDeep},
		{job.Spec{Source: "1", Interval: 1, Inputs: []string{"gone"}}, api.ErrNone}, {job.Spec{Source: "1", Interval: 1, Inputs: []string{"in", "", "journal"}}, api.ErrNone},
	} {
		w := newWorld(t, x.spec, []vm.File{{Name: "in", Text: "a"}}, room)
		for starts := range 3 {
			if r := w.Do(script.Step{Kind: script.Start}); r != (script.Result{Err: x.e}) || w.Starts != starts*2+1 {
				t.Errorf("%+v: %+v, %d starts", x.spec, r, w.Starts)
			}
			plays(t, w, "run 1000", "none", script.Result{Err: api.ErrNone})
			if r := w.Finish(room, 1000); r != (script.Result{Err: x.e}) || w.Starts != starts*2+2 || w.Done != 0 {
				t.Errorf("%+v: Finish: %+v, %d starts, %d done", x.spec, r, w.Starts, w.Done)
			}
			isFiles(t, w)
		}
	}
}

// P20.3: a Start that fails takes the job away that ran.
func TestStartFailsWhileOneRuns(t *testing.T) {
	x := over("BEGIN{while(i<100){print i;i++}}")
	w := x.world(t, 50)
	plays(t, w, "start\nrun 20\narm 0\nstart", "ok ok ok dead", script.Result{Err: api.ErrDead})
	plays(t, w, "run 1\nstart\narm -1\ncrash\nrun 1\nstart\nrun 1", "none dead ok ok none ok ok", script.Result{Steps: 1})
	if w.Starts != 4 || w.Done != 21 {
		t.Errorf("%d starts, %d steps", w.Starts, w.Done)
	}
}

// P20.3: what counts for Starts and Done: Finish's too, and the steps that a Run did ahead of its error.
func TestStartsAndDone(t *testing.T) {
	x, n := mean(t)
	l := x.moments(t)
	printed := slices.IndexFunc(l, func(m moment) bool { return len(m.files) > 0 }) - 1
	w := x.world(t, 1000)
	for _, y := range []struct {
		text         string
		starts, done int
	}{
		{"run 5\narm -1\nquota 100000\ncrash\nspoil a\ncrash 1 2", 0, 0},
		{"quota 0\nstart\nrun 9", 1, 0},
		{"quota 100000\nstart", 2, 0},
		{"run 4\nrun 0\nrun -1\nrun 2", 2, 6},
		{"start", 3, 6},
		{"run 1\ncrash\nrun 1", 3, 7},
		{"start\nstart\nrun 3", 5, 10},
		{"start\narm 0\nrun 1000", 6, 10 + printed}, // it dies where it prints
		{"run 1000\nstart\ncrash", 7, 10 + printed},
		{"start\nrun 2\nquota 9\nrun 1000", 8, 10 + 2*printed},
		{"quota 100000\nstart\nrun 1000", 9, 10 + 2*printed + n},
		{"run 1000\nstart\nrun 1000", 10, 10 + 2*printed + n},
	} {
		if play(t, w, y.text); w.Starts != y.starts || w.Done != y.done {
			t.Errorf("behind %q: %d starts, %d steps, want %d, %d", y.text, w.Starts, w.Done, y.starts, y.done)
		}
	}
	w = x.world(t, 5)
	w.Finish(room, 7)
	w.Finish(0, 1)
	if w.Starts != 2 || w.Done != 8 {
		t.Errorf("Finish: %d starts, %d steps", w.Starts, w.Done)
	}
}

// byHand: what comes of Start and Run on a disk that dies behind so many deeds, or has so much room.
func byHand(x plan, interval, arm, quota int) string {
	d := disk.New(quota)
	for _, f := range x.in {
		d.Put(f.Name, f.Text)
	}
	d.Arm(arm)
	spec := x.spec(interval)
	spec.Inputs = []string{"in"}
	j, _, e := job.Start(d, spec)
	if e != api.OK {
		return nameOf(e) + " none"
	}
	return "ok " + nameOf(j.Run(1000))
}

// P20.3: Arm and Quota are those of the disk, which dies and is full where it does without a World.
func TestArmAndQuota(t *testing.T) {
	x := over("BEGIN{while(i<8)print i++}", "in", "a")
	seen := map[string]int{}
	for _, interval := range []int{5, job.MaxInterval} {
		for arm := -2; arm < 100; arm++ {
			w := x.world(t, interval)
			w.Do(script.Step{Kind: script.Arm, N: arm})
			got, _ := play(t, w, "start\nrun 1000")
			if want := byHand(x, interval, arm, room); got != want {
				t.Errorf("armed with %d: %s, want %s", arm, got, want)
			}
			if seen[got]++; !strings.Contains(got, "dead") {
				continue
			}
			// Of a dead disk nothing is armed; behind a crash it isn't.
			w.Do(script.Step{Kind: script.Arm, N: arm - 1})
			plays(t, w, "start\narm -1\narm 5\nstart\ncrash", "dead ok ok dead ok", script.Result{})
			if got, _ := play(t, w, "start\nrun 1000"); got != "ok ok" {
				t.Errorf("armed with %d: behind a crash: %s", arm, got)
			}
		}
		for quota := -2; quota < 1000; quota++ {
			w := x.world(t, interval)
			w.Do(script.Step{Kind: script.Quota, N: quota})
			got, _ := play(t, w, "start\nrun 1000")
			if want := byHand(x, interval, -1, quota); got != want {
				t.Errorf("quota %d: %s, want %s", quota, got, want)
			}
			seen[got]++
		}
	}
	for _, errors := range []string{"dead none", "ok dead", "full none", "ok full", "ok ok"} {
		if seen[errors] < 10 {
			t.Errorf("%s: %d times", errors, seen[errors])
		}
	}
	w := x.world(t, job.MaxInterval)
	plays(t, w, "arm 1\ncrash\nstart\narm 2\narm -1\nrun 7\narm 0\narm 100\nrun 5", "ok ok ok ok ok ok ok ok ok", script.Result{Steps: 12})
}

// P20.3: a crash of a disk that lives and of one that is dead: what isn't safe goes, but what is kept of it.
func TestCrash(t *testing.T) {
	x := over("BEGIN{printf \"abc\";printf \"de\" > \"o\"; while(1);}")
	for _, y := range []struct {
		crash string
		want  []string // a file's name, its text, the next one
	}{
		{"crash", nil}, {"crash 9 9 9", nil}, {"crash names", []string{"o", "", "stdout", ""}}, {"crash names 9 1 2", []string{"o", "d", "stdout", "ab"}}, {"crash names 0 -1 1", []string{"o", "", "stdout", "a"}}, {"crash names 1000000 1000000 1000000", []string{"o", "de", "stdout", "abc"}}, {"crash names -1 -1 3 9", []string{"o", "", "stdout", "abc"}},
	} {
		w := x.world(t, 40)
		plays(t, w, "start\nrun 30\n"+y.crash, "ok ok ok", script.Result{})
		isFiles(t, w, y.want...)
		w = x.world(t, 40)
		plays(t, w, "start\nrun 30\narm 0\nrun 1000\n"+y.crash, "ok ok ok dead ok", script.Result{})
		isFiles(t, w, y.want...)
	}
}

// P20.3: Play is Do of each step.
func TestPlay(t *testing.T) {
	x, _ := mean(t)
	for _, l := range [][]script.Step{nil, {}} {
		w := x.world(t, 5)
		if r := w.Play(l); len(r) != 0 || w.Starts != 0 {
			t.Errorf("no steps: %+v", r)
		}
	}
	for seed := range numbers(200) {
		n := seed
		var l []script.Step
		for range n.next(400) {
			l = append(l, n.step())
		}
		v, w := x.world(t, 5), x.world(t, 5)
		got := v.Play(l)
		if len(got) != len(l) {
			t.Fatalf("%d results of %d steps", len(got), len(l))
		}
		for i, s := range l {
			if r := w.Do(s); r != got[i] {
				t.Fatalf("step %d, %+v: %+v, want %+v", i, s, got[i], r)
			}
		}
		if v.Starts != w.Starts || v.Done != w.Done || !slices.Equal(v.Files(), w.Files()) {
			t.Fatalf("%d starts, %d steps, want %d, %d", v.Starts, v.Done, w.Starts, w.Done)
		}
	}
}
