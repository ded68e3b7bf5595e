package job_test

import (
	"testing"

	"scribe/api"
	"scribe/disk"
	"scribe/job"
	"scribe/journal"
)

// laid: a disk with the file in of the examples, and the job over it.
func laid(interval int) (*disk.Disk, job.Spec) {
	d := disk.New(100000)
	d.Put("in", "a 1\nb 2\n")
	return d, job.Spec{Source: "{n+=$2} END{print n/NR}", Inputs: []string{"in"}, Interval: interval}
}

func isFile(t *testing.T, d *disk.Disk, name, want string) {
	t.Helper()
	n, e := d.Size(name)
	if text, _ := d.Read(name, 0, n); e != api.OK || text != want {
		t.Errorf("%s: %q, %d, want %q", name, text, e, want)
	}
}

// The chapter's example, and of the whole the ones 1 and 3 to 5.
func TestExampleRun(t *testing.T) {
	d, spec := laid(5)
	j := start(t, d, spec)
	if _, e := journal.Load(d); e != api.OK {
		t.Errorf("no checkpoint: %d", e)
	}
	if e := j.Run(1000); e != api.OK || !j.Over() {
		t.Errorf("Run: %d", e)
	}
	isFile(t, d, "stdout", "1.5\n")
	for _, keep := range []int{0, 2, 4} {
		d, spec := laid(5)
		j := start(t, d, spec)
		// The second checkpoint takes four deeds: the ninth lies behind it.
		d.Arm(8)
		if e := j.Run(1000); e != api.ErrDead || j.Steps() < 5 {
			t.Errorf("Run: %d behind %d steps", e, j.Steps())
		}
		d.Crash([]int{keep, keep, keep}, true)
		j = start(t, d, spec)
		if e := j.Run(1000); e != api.OK || j.Steps() < 5 {
			t.Errorf("Run: %d", e)
		}
		isFile(t, d, "stdout", "1.5\n")
	}
}

// Example 2 of the whole.
func TestExampleRefused(t *testing.T) {
	d, spec := laid(5)
	for _, x := range []struct {
		source string
		at     int
		e      api.Errno
	}{{"BEGIN{x=}", 8, api.ErrSyntax}, {"{print | \"sh\"}", 7, api.ErrBan}, {"BEGIN{a[1]=1;print a}", 19, api.ErrKind}} {
		spec.Source = x.source
		if !refused(d, spec, x.at, x.e) || len(all(d)) != 1 {
			t.Errorf("%q isn't refused", x.source)
		}
	}
}

// Examples 5 and 6 of the whole: what was printed behind the checkpoint is cut off, a file that was made behind it is removed.
func TestExampleCut(t *testing.T) {
	d, spec := laid(10)
	spec.Source = "BEGIN{printf \"ab\";while(i<4)i++;printf \"cd\";printf \"x\" > \"new\";while(i<100)i++;printf \"!\"}"
	j := start(t, d, spec)
	for len(j.Made()) < 2 {
		j.Run(1)
	}
	kept := j.Steps() / 10 * 10
	d.Crash([]int{0, 0, 1, 2}, true)
	isFile(t, d, "stdout", "abcd")
	isFile(t, d, "new", "x")
	j = start(t, d, spec)
	isFile(t, d, "stdout", "ab")
	if _, e := d.Size("new"); e != api.ErrNone || j.Steps() != kept {
		t.Errorf("new is there: %d; %d steps", e, j.Steps())
	}
	j.Run(1000)
	isFile(t, d, "stdout", "abcd!")
	isFile(t, d, "new", "x")
}

// Example 7 of the whole.
func TestExampleFull(t *testing.T) {
	d, spec := laid(5)
	j := start(t, d, spec)
	d.Quota(d.Used() + 3)
	if e := j.Run(1000); e != api.ErrFull {
		t.Errorf("Run: %d", e)
	}
	d.Quota(100000)
	j = start(t, d, spec)
	if e := j.Run(1000); e != api.OK || !j.Over() {
		t.Errorf("Run: %d", e)
	}
	isFile(t, d, "stdout", "1.5\n")
}

// Example 8 of the whole.
func TestExampleSpoilt(t *testing.T) {
	d, spec := laid(5)
	start(t, d, spec).Run(1000)
	d.Put("journal", "other bytes")
	j := start(t, d, spec)
	if j.Steps() != 0 || j.Run(1000) != api.OK {
		t.Errorf("%d steps", j.Steps())
	}
	if _, e := j.Code(); e != api.ErrRun {
		t.Errorf("Code: %d", e)
	}
	isFile(t, d, "stdout", "1.5\n")
}

// Examples 9 and 10 of the whole.
func TestExampleInput(t *testing.T) {
	d, spec := laid(5)
	spec.Source = "{print > \"in\"}"
	j := start(t, d, spec)
	j.Run(1000)
	steps := j.Steps()
	for range 2 {
		if status, e := j.Code(); status != 0 || e != api.ErrRun || !j.Over() || j.Steps() != steps {
			t.Errorf("Code: %d, %d behind %d steps", status, e, j.Steps())
		}
		isFile(t, d, "in", "a 1\nb 2\n")
		if !idle(d, func() {
			j = start(t, d, spec)
			j.Run(1000)
		}) {
			t.Errorf("a job that is over does something")
		}
	}
}
