package script_test

import (
	"math"
	"os"
	"runtime/debug"
	"slices"
	"strconv"
	"testing"

	"scribe/api"
	"scribe/script"
)

// Worlds are made by the ten thousand here, and gone at once: it takes less time to collect them more seldom.
func TestMain(m *testing.M) {
	debug.SetGCPercent(400)
	os.Exit(m.Run())
}

// watch is a world in which no journal is spoilt. What comes of each step is held against a run that was never broken off.
type watch struct {
	plan
	t        *testing.T
	l        []moment
	w        *script.World
	interval int
	runs     bool // a job
	dead     bool // the disk, as far as it has been seen
	at       int  // how many steps the job has, that runs or ran last
	kept     int  // how many steps the last checkpoint has that was surely kept
}

func (x plan) watch(t *testing.T, l []moment, interval int) *watch {
	t.Helper()
	return &watch{plan: x, t: t, l: l, w: x.world(t, interval), interval: interval}
}

// intervals: those that are looked at, the last one beyond the run.
func intervals(l []moment) []int {
	return []int{1, 2, 5, 7, len(l)}
}

// fails ends the test with what was done.
func (c *watch) fails(s script.Step, r script.Result, what string) {
	c.t.Helper()
	c.t.Fatalf("%q, interval %d: %+v: %+v: %s", c.source, c.interval, s, r, what)
}

// codes: those that a step of a kind may have, where programs and inputs are right and the journal isn't spoilt.
func codes(kind int) []api.Errno {
	switch kind {
	case script.Run:
		return []api.Errno{api.OK, api.ErrNone, api.ErrDead, api.ErrFull}
	case script.Start:
		return []api.Errno{api.OK, api.ErrDead, api.ErrFull}
	case script.Arm, script.Crash, script.Quota:
		return []api.Errno{api.OK}
	}
	return []api.Errno{api.ErrArg}
}

// do does a step, and looks at all that can be seen of the world behind it.
func (c *watch) do(s script.Step) script.Result {
	c.t.Helper()
	starts, done := c.w.Starts, c.w.Done
	r := c.w.Do(s)
	if !slices.Contains(codes(s.Kind), r.Err) {
		c.fails(s, r, "no code of this step")
	}
	if s.Kind == script.Start {
		starts++
	}
	if s.Kind == script.Run {
		done += c.ran(s, r, c.w.Done-done)
	}
	if c.w.Starts != starts || c.w.Done != done {
		c.fails(s, r, strconv.Itoa(c.w.Starts)+" starts, "+strconv.Itoa(c.w.Done)+" steps")
	}
	c.changed(s, r)
	c.look(s, r)
	return r
}

// ran: how many steps a run may have done; behind an error this is for it to say.
func (c *watch) ran(s script.Step, r script.Result, did int) int {
	c.t.Helper()
	fuel := max(s.N, 0)
	if (r.Err == api.ErrNone) == c.runs {
		c.fails(s, r, "a job runs: "+strconv.FormatBool(c.runs))
	}
	switch {
	case !c.runs:
		return 0
	case r.Err == api.OK:
		return min(fuel, len(c.l)-1-c.at)
	case did < 0 || did > fuel:
		c.fails(s, r, strconv.Itoa(did)+" steps were done")
	}
	return did
}

// changed takes down what a step changes.
func (c *watch) changed(s script.Step, r script.Result) {
	c.t.Helper()
	switch s.Kind {
	case script.Start:
		c.runs = r.Err == api.OK
		if c.runs && (r.Steps < c.kept || r.Steps%c.interval != 0 && !r.Over) {
			c.fails(s, r, "it goes on elsewhere than at a checkpoint; kept were "+strconv.Itoa(c.kept))
		}
	case script.Run:
		c.runs = r.Err == api.OK
	case script.Crash:
		c.runs, c.dead = false, false
	}
	c.dead = c.dead || r.Err == api.ErrDead
	if !c.runs {
		return
	}
	c.at, c.kept = r.Steps, r.Steps
	if !r.Over {
		c.kept -= r.Steps % c.interval
	}
}

// look: while a job runs, all is as in an unbroken run of so many steps; of none that runs nothing is told, and a dead disk has no files.
func (c *watch) look(s script.Step, r script.Result) {
	c.t.Helper()
	files := c.w.Files()
	told := r
	told.Err = api.OK
	switch {
	case !c.runs && told != (script.Result{}):
		c.fails(s, r, "there is no job")
	case c.dead && len(files) > 0:
		c.fails(s, r, "the disk is dead")
	case !c.runs:
		return
	case r.Steps < 0 || r.Steps >= len(c.l) || told != c.l[r.Steps].Result:
		c.fails(s, r, strconv.Itoa(len(c.l)-1)+" steps in all")
	case !slices.Equal(files, c.l[r.Steps].files):
		c.fails(s, r, "files that are none of an unbroken run")
	}
}

// end: P20.2.
func (c *watch) end() {
	c.t.Helper()
	done := c.w.Done
	r := c.w.Finish(room, enough)
	c.runs, c.dead = true, false
	c.look(script.Step{}, r)
	if r.Err != api.OK || !r.Over || r.Steps != len(c.l)-1 || r.Steps < c.kept {
		c.fails(script.Step{}, r, "Finish, of "+strconv.Itoa(len(c.l)-1)+" steps")
	}
	if did := c.w.Done - done; did < 0 || did > r.Steps-c.kept {
		c.fails(script.Step{}, r, strconv.Itoa(did)+" steps, though so many were kept: "+strconv.Itoa(c.kept))
	}
	if most := r.Steps + (c.w.Starts-1)*c.interval; c.w.Done > most {
		c.fails(script.Step{}, r, strconv.Itoa(c.w.Done)+" steps, at most "+strconv.Itoa(most))
	}
	c.at, c.kept = r.Steps, r.Steps
}

// each lets tests of plans run beside one another.
func each(t *testing.T, l []plan, do func(t *testing.T, x plan, l []moment)) {
	for i, x := range l {
		t.Run(strconv.Itoa(i), func(t *testing.T) {
			t.Parallel()
			do(t, x, x.moments(t))
		})
	}
}

// keeps: such as keep nothing, everything, or parts.
func keeps() [][]int {
	all := slices.Repeat([]int{math.MaxInt}, 12)
	return [][]int{nil, all, {1, 2, 3, 4, 5, 6, 7, 8, 9}, {0, room, 0, room, 0, room, 0}, {room, 0, room, 0, room, 0, room}, {-1, 2, -5, 2, 3, 1, 0, 2}}
}
