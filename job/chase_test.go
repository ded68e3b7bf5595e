package job_test

import (
	"os"
	"runtime/debug"
	"testing"

	"scribe/api"
	"scribe/disk"
	"scribe/job"
)

// Disks and jobs are made by the hundred thousand here, and gone at once: it takes half the time to collect them more seldom.
func TestMain(m *testing.M) {
	debug.SetGCPercent(400)
	os.Exit(m.Run())
}

// chase is a job that is started and broken off, again and again. It holds against an unbroken run what the job has behind each Start, and at its end.
type chase struct {
	plan
	t        *testing.T
	l        []moment
	d        *disk.Disk
	interval int
	fuel     int // of each Run
	kept     int // how many steps the last checkpoint has that was surely kept
	starts   int
	done     int // steps of all runs together
	begun    bool
}

func (x plan) chase(t *testing.T, interval, fuel int) *chase {
	return &chase{plan: x, t: t, l: x.moments(t), d: x.disk(), interval: interval, fuel: fuel}
}

// again: the same once more, from its beginning.
func (c *chase) again() *chase {
	return &chase{plan: c.plan, t: c.t, l: c.l, d: c.plan.disk(), interval: c.interval, fuel: c.fuel}
}

// try starts the job and lets it run; what ended it, OK at its end.
func (c *chase) try() api.Errno {
	c.t.Helper()
	c.starts++
	j, at, e := job.Start(c.d, c.spec(c.interval))
	if e != api.OK {
		if j != nil || at != 0 || e != api.ErrDead && e != api.ErrFull || (e == api.ErrDead) != c.d.Dead() {
			c.t.Fatalf("%q: Start: %v, %d, %d", c.source, j, at, e)
		}
		return e
	}
	c.begun = true
	c.atStart(j)
	for !j.Over() {
		was := j.Steps()
		e := j.Run(c.fuel)
		c.done += j.Steps() - was
		if e != api.OK {
			c.broken(j, e)
			return e
		}
		c.kept = j.Steps()
		if !j.Over() {
			c.kept -= j.Steps() % c.interval
		}
	}
	c.atEnd(j)
	return api.OK
}

// atStart: the job stands at a checkpoint, not ahead of the last one that was kept, and all is as in an unbroken run.
func (c *chase) atStart(j *job.Job) {
	c.t.Helper()
	if j.Steps()%c.interval != 0 && !j.Over() || j.Steps() < c.kept {
		c.t.Fatalf("%q, interval %d: it goes on at %d steps, %d were kept", c.source, c.interval, j.Steps(), c.kept)
	}
	c.check(c.t, c.d, j, c.l)
	c.kept = j.Steps()
}

// broken: the disk ended the run.
func (c *chase) broken(j *job.Job, e api.Errno) {
	c.t.Helper()
	if e != api.ErrDead && e != api.ErrFull || (e == api.ErrDead) != c.d.Dead() {
		c.t.Fatalf("%q: Run: %d", c.source, e)
	}
	if j.Steps() >= len(c.l) || j.Over() != c.l[j.Steps()].over {
		c.t.Fatalf("%q: Run: %d behind %d steps, over %v", c.source, e, j.Steps(), j.Over())
	}
	// No step is done ahead of the checkpoint that is due.
	if n := j.Steps() - 1; n >= 0 {
		c.kept = max(c.kept, n-n%c.interval)
	}
}

// atEnd: all is as in an unbroken run, and not many steps were done in vain.
func (c *chase) atEnd(j *job.Job) {
	c.t.Helper()
	c.check(c.t, c.d, j, c.l)
	if !j.Over() || j.Steps() != len(c.l)-1 {
		c.t.Fatalf("%q: %d steps at the end, over %v", c.source, j.Steps(), j.Over())
	}
	if most := j.Steps() + (c.starts-1)*c.interval; c.done > most {
		c.t.Fatalf("%q, interval %d: %d steps in %d starts, %d at most", c.source, c.interval, c.done, c.starts, most)
	}
}

// end starts the job with room, on a disk that doesn't die any more.
func (c *chase) end() {
	c.t.Helper()
	c.d.Quota(room)
	c.d.Arm(-1)
	if e := c.try(); e != api.OK {
		c.t.Fatalf("%q: the last run: %d", c.source, e)
	}
}

// crash is what a crash keeps.
type crash struct {
	keeps []int
	names bool
}

// crashes: such as keep nothing, everything, or part of it.
func crashes() []crash {
	all := []int{room, room, room, room, room, room, room, room, room, room, room, room}
	var l []crash
	for _, names := range []bool{false, true} {
		for _, keeps := range [][]int{nil, all, {1, 2, 3, 4, 5, 6, 7, 8, 9}, {0, room, 0, room, 0, room, 0, room}, {room, 0, room, 0, room, 0, room}, {0, 0, 0, 0, 1, 1, 1, 1, 1, 1}, {-1, 2, -5, 2, 3, 1, 0, 2}} {
			l = append(l, crash{keeps, names})
		}
	}
	return l
}

func (c *chase) crash(k crash) {
	c.d.Crash(k.keeps, k.names)
}

// intervals: those that are looked at, the last one beyond the run.
func (c *chase) intervals() []int {
	return []int{1, 2, 5, 7, len(c.l)}
}
