package job_test

import (
	"testing"

	"scribe/api"
	"scribe/job"
	"scribe/journal"
)

// P19.4: every quota from what is used at the start up to what the run needs: nothing that is kept is lost, behind a crash too; with more room the job comes to its end.
func TestEachQuota(t *testing.T) {
	l := crashes()
	each(t, small(), func(t *testing.T, x plan) {
		first := x.chase(t, 1, 1)
		for _, interval := range first.intervals() {
			first.interval = interval
			for quota := first.d.Used(); ; quota++ {
				c := first.again()
				c.d.Quota(quota)
				if c.try() == api.OK {
					break
				}
				full(c, l[quota%len(l)])
				c.end()
			}
		}
	})
}

// full: on a disk that is full what was kept is there, crash or not, and the job stands there whenever it is started again.
func full(c *chase, k crash) {
	c.t.Helper()
	text, e := journal.Load(c.d)
	if (e == api.OK) != c.begun {
		c.t.Fatalf("%q: Load: %d", c.source, e)
	}
	c.crash(k)
	if now, also := journal.Load(c.d); now != text || also != e {
		c.t.Fatalf("%q: what was kept is lost: %d", c.source, also)
	}
	if !c.begun {
		return
	}
	j := start(c.t, c.d, c.spec(c.interval))
	c.starts++
	c.atStart(j)
	if now, _ := journal.Load(c.d); now != text {
		c.t.Fatalf("%q: Start keeps something else", c.source)
	}
}

// P19.4: Start and Run answer OK or ErrFull, and no other error, as often as they are asked; a job that is over needs no room.
func TestFullAgain(t *testing.T) {
	for _, x := range large() {
		l := x.moments(t)
		d := x.disk()
		for more := 0; more < 6000; more += 300 {
			d.Quota(d.Used() + more)
			for range 3 {
				j, at, e := job.Start(d, x.spec(5))
				if e == api.ErrFull && j == nil && at == 0 {
					continue
				}
				if e != api.OK {
					t.Fatalf("%q: Start: %d", x.source, e)
				}
				x.check(t, d, j, l)
				e = j.Run(enough)
				if e != api.OK && e != api.ErrFull || (e == api.OK) != j.Over() && e == api.OK {
					t.Fatalf("%q: Run: %d", x.source, e)
				}
				if also := j.Run(1); also != e {
					t.Fatalf("%q: Run: %d behind %d", x.source, also, e)
				}
			}
		}
		d.Quota(room)
		j := start(t, d, x.spec(5))
		if e := j.Run(enough); e != api.OK || !j.Over() {
			t.Fatalf("%q: with room: %d", x.source, e)
		}
		x.check(t, d, j, l)
		d.Quota(0)
		j = start(t, d, x.spec(5))
		if e := j.Run(enough); e != api.OK || !j.Over() {
			t.Fatalf("%q: over, on a full disk: %d", x.source, e)
		}
		x.check(t, d, j, l)
	}
}

// P19.4: a disk with as many files as it may have is full, too.
func TestManyFiles(t *testing.T) {
	// Nine files, the journal, and the one that replaces it.
	const needed = 11
	for _, wanting := range []int{0, 1, 2, needed} {
		x := over("BEGIN{while(i<9)print i > (\"o\" i++)}")
		for n := 0; len(x.lie) < api.MaxFiles-needed+wanting; n++ {
			x.lie["x"+string(rune('a'+n/26))+string(rune('a'+n%26))] = ""
		}
		c := x.chase(t, 4, enough)
		for range 2 {
			if e := c.try(); (e == api.ErrFull) != (wanting > 0) {
				t.Errorf("%d files are wanting: %d", wanting, e)
			}
		}
	}
}
