package job_test

import (
	"math"
	"testing"

	"scribe/api"
	"scribe/job"
	"scribe/journal"
)

// P19.1: without crashes a job is what a machine by itself is, in files: in one piece, and in pieces of every size.
func TestWhole(t *testing.T) {
	for _, x := range large() {
		l := x.moments(t)
		steps := len(l) - 1
		for _, interval := range []int{1, 2, 5, 7, max(steps-1, 1), steps, steps + 1, job.MaxInterval} {
			for _, size := range []int{1, 2, 3, 8, max(steps-1, 1), steps, steps + 1, enough, math.MaxInt} {
				d := x.disk()
				j := start(t, d, x.spec(interval))
				x.check(t, d, j, l)
				for done := 0; done < steps; done += min(size, steps) {
					if j.Steps() != done {
						t.Fatalf("%q in pieces of %d: %d steps behind %d", x.source, size, j.Steps(), done)
					}
					if e := j.Run(size); e != api.OK {
						t.Fatalf("%q in pieces of %d: Run: %d", x.source, size, e)
					}
					x.check(t, d, j, l)
				}
				if !j.Over() || j.Steps() != steps {
					t.Fatalf("%q in pieces of %d: over %v behind %d steps, %d in all", x.source, size, j.Over(), j.Steps(), steps)
				}
			}
		}
	}
}

// P19.1: without fuel nothing is done.
func TestNoFuel(t *testing.T) {
	for _, x := range small() {
		l := x.moments(t)
		d := x.disk()
		j := start(t, d, x.spec(1))
		for steps := range len(l) {
			for _, fuel := range []int{0, -1, math.MinInt} {
				was := all(d)
				if !idle(d, func() { j.Run(fuel) }) || j.Steps() != steps || !same(all(d), was) {
					t.Fatalf("%q: Run(%d) did something behind %d steps", x.source, fuel, steps)
				}
			}
			j.Run(1)
		}
	}
}

// P19.1, P19.3: there is a checkpoint at the beginning, one whenever so many steps as the interval were done since the last one, and one at the end; none elsewhere.
func TestCheckpoints(t *testing.T) {
	for _, x := range small() {
		l := x.moments(t)
		for _, interval := range []int{1, 2, 5, 7, len(l) - 1, len(l), job.MaxInterval} {
			d := x.disk()
			j := start(t, d, x.spec(interval))
			kept, e := journal.Load(d)
			if e != api.OK {
				t.Fatalf("%q: no checkpoint at the beginning: %d", x.source, e)
			}
			for !j.Over() {
				j.Run(1)
				now, e := journal.Load(d)
				due := j.Steps()%interval == 0 || j.Over()
				if e != api.OK || (now != kept) != due {
					t.Fatalf("%q behind %d steps, interval %d: a checkpoint: %v, %d", x.source, j.Steps(), interval, now != kept, e)
				}
				kept = now
			}
		}
	}
}

// P19.1: a job that is over: Start answers it as it is, also behind a crash, and neither that nor Run does anything.
func TestOver(t *testing.T) {
	for _, x := range large() {
		l := x.moments(t)
		for _, interval := range []int{1, 7, job.MaxInterval} {
			d := x.disk()
			j := start(t, d, x.spec(interval))
			j.Run(enough)
			was := all(d)
			for range 3 {
				if !idle(d, func() { j = start(t, d, x.spec(interval)) }) || !idle(d, func() { j.Run(enough) }) {
					t.Fatalf("%q: a deed behind the end", x.source)
				}
				x.check(t, d, j, l)
				if !j.Over() || !same(all(d), was) {
					t.Fatalf("%q: other files behind the end", x.source)
				}
				d.Crash(nil, false)
			}
		}
	}
}

// P19.3: a job that has only begun, or that didn't run any more behind a checkpoint, is the same one when it is started again, and nothing is done.
func TestStartTwice(t *testing.T) {
	for _, x := range small() {
		l := x.moments(t)
		for steps := range l {
			d := x.disk()
			j := start(t, d, x.spec(1))
			j.Run(steps)
			was := all(d)
			if !idle(d, func() { j = start(t, d, x.spec(1)) }) || !same(all(d), was) || j.Steps() != steps {
				t.Fatalf("%q behind %d steps: Start did something", x.source, steps)
			}
			x.check(t, d, j, l)
			j = start(t, d, x.spec(1))
			j.Run(enough)
			x.check(t, d, j, l)
		}
	}
}

// P19.1: whatever was there when the job began, and the journal's files, end a run that prints to them, and stay as they were; so does what is no name.
func TestNotPrintedTo(t *testing.T) {
	for _, name := range []string{"in", "keep", "none", "earlier", "stdout", "journal", "journal.new", "", "A", "a b", "a/b", "ä", many("a", 41)} {
		for _, way := range []string{">", ">>"} {
			x := over("BEGIN{print 1 > \"first\"} {print 2 "+way+" \""+name+"\";print 3 > \"third\"}", "in")
			x.lie["stdout"] = "before\n"
			d := x.disk()
			// A file that another job has made.
			other := start(t, d, job.Spec{Source: "BEGIN{print 5 > \"earlier\"}", Interval: 3})
			other.Run(enough)
			x.lie["earlier"] = "5\n"
			l := x.moments(t)
			if end := l[len(l)-1]; end.err != api.ErrRun || len(end.files) != 1 {
				t.Fatalf("%q: %v", x.source, end)
			}
			j := start(t, d, x.spec(4))
			e := j.Run(enough)
			if e != api.OK {
				t.Errorf("%q: Run: %d", x.source, e)
			}
			x.check(t, d, j, l)
			if _, e := journal.Load(d); e != api.OK {
				t.Errorf("%q: the journal is spoilt: %d", x.source, e)
			}
		}
	}
}

// P19.1: a file that somebody laid between two jobs is there for the second one, and goes from the first one's disk.
func TestLaidBetween(t *testing.T) {
	x := over("{print;print > \"laid\"}", "in")
	d := x.disk()
	first := over("BEGIN{print 1 > \"o\"}")
	start(t, d, first.spec(2)).Run(enough)
	x.lie["o"], x.lie["laid"] = "1\n", "somebody's"
	d.Put("laid", "somebody's")
	l := x.moments(t)
	j := start(t, d, x.spec(3))
	x.check(t, d, j, l)
	j.Run(enough)
	if _, e := j.Code(); e != api.ErrRun {
		t.Errorf("Code: %d", e)
	}
	x.check(t, d, j, l)
	// What the job doesn't know goes, whoever laid it.
	d.Put("more", "somebody's")
	x.check(t, d, start(t, d, x.spec(3)), l)
}

// P19.1: the Output that a job is: files are made, emptied and written to; names that aren't its own are refused.
func TestOutput(t *testing.T) {
	x := over("{print}", "in")
	d := x.disk()
	j := start(t, d, x.spec(100))
	for _, name := range []string{"in", "keep", "journal", "journal.new", "", "A", many("a", 41)} {
		if j.Begin(name) != api.ErrArg || j.Append(name, "x") != api.ErrArg {
			t.Errorf("%q isn't refused", name)
		}
	}
	for _, e := range []api.Errno{j.Begin("a"), j.Append("b", ""), j.Append("c", "ab"), j.Append("c", "c"), j.Append("a", "x"), j.Append("d", "gone"), j.Begin("d"), j.Append("d", "d")} {
		if e != api.OK {
			t.Errorf("%d", e)
		}
	}
	x.lie["a"], x.lie["b"], x.lie["c"], x.lie["d"] = "x", "", "abc", "d"
	if got := shown(d); !same(got, x.lie) {
		t.Errorf("%q", got)
	}
	if got := j.Made(); len(got) != 4 || got[0] != (job.Length{Name: "a", Size: 1}) || got[1] != (job.Length{Name: "b"}) || got[2] != (job.Length{Name: "c", Size: 3}) || got[3] != (job.Length{Name: "d", Size: 1}) {
		t.Errorf("Made: %v", got)
	}
	d.Quota(d.Used())
	if j.Append("a", "x") != api.ErrFull || j.Append("e", "x") != api.ErrFull || j.Append("a", "") != api.OK {
		t.Errorf("a full disk isn't told")
	}
	d.Quota(room)
	if j.Append("a", many("x", api.MaxFile)) != api.ErrBig {
		t.Errorf("a file that is too long isn't told")
	}
	d.Arm(0)
	d.SyncDir()
	if j.Begin("f") != api.ErrDead || j.Append("a", "") != api.ErrDead || j.Append("f", "x") != api.ErrDead {
		t.Errorf("a dead disk isn't told")
	}
}

// P19.1: a file that gets too long ends Run with ErrBig; Start goes on at the last checkpoint.
func TestTooLong(t *testing.T) {
	x := over("BEGIN{x=sprintf(\"%999s\",1);x=x x x;print 1 > \"a\";while(1)print x}")
	d := x.disk()
	j := start(t, d, x.spec(100))
	steps := 0
	for range 3 {
		was := j.Steps()
		if e := j.Run(enough); e != api.ErrBig || j.Over() || j.Steps() < was || j.Steps() < 300 {
			t.Fatalf("Run: %d behind %d steps", e, j.Steps())
		}
		if steps > 0 && j.Steps() != steps {
			t.Errorf("%d steps, %d before", j.Steps(), steps)
		}
		steps = j.Steps()
		if e := j.Run(1); e != api.ErrBig || j.Steps() != steps {
			t.Errorf("Run behind an error: %d", e)
		}
		j = start(t, d, x.spec(100))
		if j.Steps() != steps/100*100 {
			t.Errorf("it goes on at %d of %d steps", j.Steps(), steps)
		}
	}
}
