package job_test

import (
	"maps"
	"math"
	"slices"
	"strings"
	"testing"

	"scribe/api"
	"scribe/code"
	"scribe/disk"
	"scribe/job"
	"scribe/journal"
	"scribe/sum"
)

// P19.1, P3: a program that isn't one is refused with its place, and nothing is touched.
func TestNoProgram(t *testing.T) {
	for _, x := range []struct {
		source string
		at     int
		e      api.Errno
	}{
		{"BEGIN{x=}", 8, api.ErrSyntax}, {"{print | \"sh\"}", 7, api.ErrBan}, {"{system(1)}", 1, api.ErrBan}, {"BEGIN{a[1]=1;print a}", 19, api.ErrKind}, {"{f(1)}", 1, api.ErrKind},
		{many("x", api.MaxSource+1), 0, api.ErrBig}, {"{x=" + many("(", 60), 51, api.ErrDeep}, {"{x=\"", 3, api.ErrSyntax}, {"{next} END{next}", 11, api.ErrSyntax}, {"{", 1, api.ErrSyntax},
	} {
		_, at, e := code.Compile(x.source)
		if at != x.at && x.e != api.ErrDeep || e != x.e {
			t.Errorf("Compile(%.40q): %d at %d", x.source, e, at)
		}
		d := over("").disk()
		was := all(d)
		// The place is told ahead of whatever is wrong with the inputs.
		for _, inputs := range [][]string{nil, {"in"}, {"gone"}, {journal.File}} {
			spec := job.Spec{Source: x.source, Inputs: inputs, Interval: 1}
			if !idle(d, func() {
				if !refused(d, spec, at, e) {
					t.Errorf("%.40q isn't refused with %d at %d", x.source, e, at)
				}
			}) || !same(all(d), was) {
				t.Errorf("%.40q: something is touched", x.source)
			}
		}
	}
}

// P19.1: the interval's ends.
func TestInterval(t *testing.T) {
	for _, n := range []int{0, -1, job.MaxInterval + 1, math.MaxInt, math.MinInt} {
		d := over("").disk()
		was := all(d)
		// It is told ahead of all else.
		for _, spec := range []job.Spec{{Source: "1", Interval: n}, {Source: "BEGIN{x=}", Inputs: []string{"gone"}, Interval: n}, {Source: "1", Inputs: []string{journal.Temp}, Interval: n}} {
			if !refused(d, spec, 0, api.ErrArg) || !same(all(d), was) {
				t.Errorf("interval %d: %v isn't refused", n, spec)
			}
		}
	}
	for _, n := range []int{1, 2, job.MaxInterval - 1, job.MaxInterval} {
		start(t, over("").disk(), job.Spec{Source: "1", Interval: n})
	}
}

// P19.1: inputs that can't be: the first one's error, in their order; nothing is touched.
func TestNoInput(t *testing.T) {
	for _, x := range []struct {
		inputs []string
		e      api.Errno
	}{
		{[]string{"journal"}, api.ErrArg}, {[]string{"journal.new"}, api.ErrArg}, {[]string{"gone"}, api.ErrNone}, {[]string{"A"}, api.ErrNone}, {[]string{""}, api.ErrNone}, {[]string{many("a", 41)}, api.ErrNone},
		{[]string{"in", "journal"}, api.ErrArg}, {[]string{"in", "in2", "none", "gone"}, api.ErrNone}, {[]string{"gone", "journal"}, api.ErrNone}, {[]string{"journal", "gone"}, api.ErrArg}, {[]string{"in", "journal.new", "gone"}, api.ErrArg},
	} {
		for _, lie := range []map[string]string{common(), {"in": "a", "in2": "", "none": "b", "journal": "x", "journal.new": "y"}} {
			d := plan{lie: lie}.disk()
			was := all(d)
			if !idle(d, func() {
				if !refused(d, job.Spec{Source: "1", Inputs: x.inputs, Interval: 1}, 0, x.e) {
					t.Errorf("%q isn't refused with %d", x.inputs, x.e)
				}
			}) || !same(all(d), was) {
				t.Errorf("%q: something is touched", x.inputs)
			}
		}
	}
	for _, inputs := range [][]string{nil, {}, {"none"}, {"in"}, {"in", "in"}, {"in", "in2", "in"}, {"keep", "none", "none"}} {
		start(t, over("").disk(), job.Spec{Source: "1", Inputs: inputs, Interval: 1})
	}
}

// P19.1: a dead disk: what is wrong with the job is told ahead of it, as far as the disk isn't asked for it.
func TestDeadDisk(t *testing.T) {
	d := over("").disk()
	d.Arm(0)
	d.SyncDir()
	for _, x := range []struct {
		spec job.Spec
		at   int
		e    api.Errno
	}{
		{job.Spec{Source: "1", Interval: 0}, 0, api.ErrArg}, {job.Spec{Source: "BEGIN{x=}", Interval: 1}, 8, api.ErrSyntax}, {job.Spec{Source: "1", Inputs: []string{"journal"}, Interval: 1}, 0, api.ErrArg},
		{job.Spec{Source: "1", Interval: 1}, 0, api.ErrDead}, {job.Spec{Source: "1", Inputs: []string{"in"}, Interval: 1}, 0, api.ErrDead}, {job.Spec{Source: "1", Inputs: []string{"in", "journal"}, Interval: 1}, 0, api.ErrDead}, {job.Spec{Source: "1", Inputs: []string{"gone"}, Interval: 1}, 0, api.ErrDead},
	} {
		if !refused(d, x.spec, x.at, x.e) {
			t.Errorf("%v isn't refused with %d at %d", x.spec, x.e, x.at)
		}
	}
	d.Crash(nil, false)
	if !same(all(d), common()) {
		t.Errorf("something is touched: %q", all(d))
	}
}

// P19.1: behind an error of the disk there is no job, and no place.
func TestDiskErrors(t *testing.T) {
	for _, x := range small() {
		for arm := range 100 {
			d := x.disk()
			d.Arm(arm)
			j, at, e := job.Start(d, x.spec(3))
			if e == api.OK {
				break
			}
			if j != nil || at != 0 || e != api.ErrDead || !d.Dead() {
				t.Fatalf("%q, armed with %d: %v, %d, %d", x.source, arm, j, at, e)
			}
		}
		d := x.disk()
		d.Quota(d.Used())
		if !refused(d, x.spec(3), 0, api.ErrFull) || !same(shown(d), x.lie) {
			t.Errorf("%q: a full disk isn't told", x.source)
		}
	}
	d := disk.New(room)
	for i := range api.MaxFiles {
		d.Put("f"+string(rune('0'+i/10))+string(rune('0'+i%10)), "")
	}
	if !refused(d, job.Spec{Source: "1", Interval: 1}, 0, api.ErrFull) || len(all(d)) != api.MaxFiles {
		t.Errorf("too many files aren't told")
	}
}

// tried is a job that stands at its second checkpoint, a few steps and deeds ahead of it.
func tried(t *testing.T) (plan, *disk.Disk) {
	t.Helper()
	x := over("{print;print NR > (\"o\" NR%2);printf \"\" > \"e\"} END{print NR}", "in", "in2")
	d := x.disk()
	j := start(t, d, x.spec(20))
	if e := j.Run(57); e != api.OK || j.Over() || len(j.Made()) != 4 {
		t.Fatalf("Run: %d, %v", e, j.Made())
	}
	return x, d
}

// stands: does the job go on there, or at 0: does it begin anew, all files that there are not its own?
func (x plan) stands(t *testing.T, what string, d *disk.Disk, steps int) {
	t.Helper()
	was := shown(d)
	j := start(t, d, x.spec(20))
	if j.Steps() != steps {
		t.Errorf("%s: it goes on at %d steps, not at %d", what, j.Steps(), steps)
		return
	}
	if steps == 0 {
		x.lie = was
		if len(j.Made()) > 0 {
			t.Errorf("%s: what was printed is its own: %v", what, j.Made())
		}
	}
	l := x.moments(t)
	x.check(t, d, j, l)
	for !j.Over() {
		if e := j.Run(7); e != api.OK {
			t.Fatalf("%s: Run: %d", what, e)
		}
		x.check(t, d, j, l)
	}
}

// P19.3: what was printed behind the last checkpoint is cut off, what was made goes, and what the job doesn't know.
func TestCut(t *testing.T) {
	x, d := tried(t)
	x.stands(t, "as it is", d, 40)
	for _, change := range []func(d *disk.Disk){
		func(d *disk.Disk) { d.Append("stdout", "more") },
		func(d *disk.Disk) { d.Append("o1", ""); d.Append("o1", "x\n") },
		func(d *disk.Disk) { d.Append("e", "x") },
		func(d *disk.Disk) { d.Put("stranger", "x") },
		func(d *disk.Disk) { d.Append("another", ""); d.Put("zz", "") },
		func(d *disk.Disk) { d.Put("journal.new", "x") },
		func(d *disk.Disk) { d.Crash(nil, false) },
		func(d *disk.Disk) { d.Crash([]int{9, 9, 9, 9, 9, 9, 9, 9}, true) },
		func(d *disk.Disk) { d.Put("keep", "yours"); x.lie["keep"] = "yours" },
		func(d *disk.Disk) { d.Put("keep", ""); x.lie["keep"] = "" },
	} {
		x, d = tried(t)
		change(d)
		x.stands(t, "changed", d, 40)
	}
}

// P19.3: files that were there and aren't, or that the job made and are gone or shorter than its checkpoint says: it begins anew, and leaves all as it is.
func TestLost(t *testing.T) {
	x, d := tried(t)
	kept := start(t, d, x.spec(20)).Made()
	for _, l := range kept {
		_, d := tried(t)
		d.Remove(l.Name)
		x.stands(t, l.Name+" is gone", d, 0)
		_, d = tried(t)
		d.Rename(l.Name, "elsewhere")
		x.stands(t, l.Name+" has another name", d, 0)
		for n := range l.Size + 1 {
			_, d := tried(t)
			d.Truncate(l.Name, n)
			steps := 0
			if n == l.Size {
				steps = 40
			}
			x.stands(t, l.Name+" is cut", d, steps)
		}
	}
	if len(kept) != 4 {
		t.Errorf("Made: %v", kept)
	}
	for _, name := range []string{"keep", "none"} {
		_, d := tried(t)
		d.Remove(name)
		x.stands(t, name+" is gone", d, 0)
	}
}

// P19.3: an input that is gone is an error; with one that has other bytes it is another job.
func TestOtherInputs(t *testing.T) {
	x, d := tried(t)
	d.Remove("in2")
	was := all(d)
	if !refused(d, x.spec(20), 0, api.ErrNone) || !same(all(d), was) {
		t.Errorf("an input that is gone isn't told")
	}
	for _, text := range []string{"", "a 1\nb 2\na 3", "a 1\nb 2\na 3\n\n", "a 1\nb 2\na 4\n", "b 1\nb 2\na 3\n", "a 3\nb 2\na 1\n"} {
		_, d := tried(t)
		d.Put("in", text)
		x.stands(t, "in is "+text, d, 0)
	}
	for _, inputs := range [][]string{nil, {"in"}, {"in2"}, {"in2", "in"}, {"in", "in2", "none"}, {"in", "in2", "in"}, {"in", "keep"}, {"in", "twin"}, {"in", "in2", "twin"}} {
		x, d := tried(t)
		x.inputs = inputs
		x.stands(t, strings.Join(inputs, ","), d, 0)
	}
	// So many bytes of 0 have the sum of none.
	y := over("BEGIN{print 1;print 2}", "none")
	d = y.disk()
	start(t, d, y.spec(2)).Run(4)
	d.Put("none", many("\x00", sum.Mod))
	y.stands(t, "none is long", d, 0)
}

// P19.3: a program of another text is another job, also if it means the same; the interval says nothing of which job it is.
func TestOtherJob(t *testing.T) {
	x, _ := tried(t)
	for _, source := range []string{"", x.source + " ", " " + x.source, x.source[:len(x.source)-1] + ";}", "1"} {
		y, d := tried(t)
		y.source = source
		y.stands(t, source, d, 0)
	}
	for _, interval := range []int{1, 2, 19, 20, 21, 40, job.MaxInterval} {
		x, d := tried(t)
		l := x.moments(t)
		j := start(t, d, x.spec(interval))
		x.check(t, d, j, l)
		if j.Steps() != 40 {
			t.Errorf("interval %d: it goes on at %d", interval, j.Steps())
		}
		// The next checkpoint lies so many steps behind this one.
		kept, _ := journal.Load(d)
		for !j.Over() {
			j.Run(1)
			now, _ := journal.Load(d)
			if due := (j.Steps()-40)%interval == 0 || j.Over(); (now != kept) != due {
				t.Errorf("interval %d: a checkpoint behind %d steps: %v", interval, j.Steps(), now != kept)
			}
			kept = now
		}
		x.check(t, d, j, l)
	}
}

// P19.3: in the place of one job another one, and the first one again: each begins anew, and what others printed stays.
func TestTurns(t *testing.T) {
	plans := []plan{over("{print > \"a\"}", "in"), over("{print > \"b\"}", "in"), over("{print > \"a\"}", "in")}
	d := plans[0].disk()
	lie := common()
	for i, x := range plans {
		x.lie = maps.Clone(lie)
		l := x.moments(t)
		j := start(t, d, x.spec(3))
		x.check(t, d, j, l)
		j.Run(enough)
		x.check(t, d, j, l)
		if _, e := j.Code(); (e == api.ErrRun) != (i == 2) {
			t.Errorf("job %d: %d", i, e)
		}
		lie = shown(d)
	}
	if got := slices.Sorted(maps.Keys(lie)); !slices.Equal(got, []string{"a", "b", "in", "in2", "keep", "none", "twin"}) {
		t.Errorf("%q", got)
	}
}
