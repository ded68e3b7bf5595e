package job_test

import (
	"maps"
	"slices"
	"strings"
	"testing"

	"scribe/api"
	"scribe/code"
	"scribe/disk"
	"scribe/job"
	"scribe/journal"
	"scribe/vm"
)

// enough steps for all programs that are meant to end; room for all that they print.
const (
	enough = 200000
	room   = 1 << 22
)

// plan is a program, the names of its inputs, and the files that lie on a disk ahead of the job.
type plan struct {
	source string
	inputs []string
	lie    map[string]string
}

// common files: two inputs, one like the second one, an empty one, and one that no program reads.
func common() map[string]string {
	return map[string]string{"in": "a 1\nb 2\na 3\n", "in2": "c 4\n\nb 5", "twin": "c 4\n\nb 5", "none": "", "keep": "mine"}
}

func over(source string, inputs ...string) plan {
	return plan{source: source, inputs: inputs, lie: common()}
}

func (x plan) spec(interval int) job.Spec {
	return job.Spec{Source: x.source, Inputs: x.inputs, Interval: interval}
}

func (x plan) disk() *disk.Disk {
	d := disk.New(room)
	for name, text := range x.lie {
		d.Put(name, text)
	}
	return d
}

// moment is what a run that was never broken off has behind so many steps.
type moment struct {
	files  map[string]string
	over   bool
	status int
	err    api.Errno
}

// moments: of a machine whose output lies in memory: behind each number of steps, up to the end.
func (x plan) moments(t *testing.T) []moment {
	t.Helper()
	p, at, e := code.Compile(x.source)
	if e != api.OK {
		t.Fatalf("Compile(%q): %d at %d", x.source, e, at)
	}
	files := map[string]string{}
	accepts := func(name string) bool {
		_, there := x.lie[name]
		return disk.Name(name) && !there && name != journal.File && name != journal.Temp
	}
	begin := func(name string) api.Errno {
		if !accepts(name) {
			return api.ErrArg
		}
		files[name] = ""
		return api.OK
	}
	add := func(name, text string) api.Errno {
		if !accepts(name) {
			return api.ErrArg
		}
		files[name] += text
		return api.OK
	}
	var in []vm.File
	for _, name := range x.inputs {
		in = append(in, vm.File{Name: name, Text: x.lie[name]})
	}
	m := vm.New(p, in, vm.Output{Begin: begin, Append: add})
	var l []moment
	for !m.Over() && len(l) < enough {
		l = append(l, moment{files: maps.Clone(files)})
		m.Run(1)
	}
	status, e := m.Code()
	return append(l, moment{files: files, over: true, status: status, err: e})
}

// small programs of all kinds, each with few steps.
func small() []plan {
	return []plan{
		over("BEGIN{x=1}"),
		over("{n+=$2} END{print n/NR}", "in"),
		over("{print;print NR > (\"o\" NR%2)}", "in"),
		over("BEGIN{printf \"\" > \"empty\";print 1 > \"b\";print 2 >> \"a\";print 3 > \"stdout\";print 4 > \"a\";exit 7}"),
		over("{m[$1]=m[$1] $2} END{for(k in m)print m[k] >> k;exit NR}", "in"),
		over("BEGIN{print 1;print 2 > \"a\";print 1/0;print 3}"),
		over("{print $1;print 5 > $1;if(NR>1)print > \"keep\"}", "in"),
	}
}

// large ones: with calls, arrays, texts, several inputs; with each way to end.
func large() []plan {
	return append(small(),
		over(""), over("1", "none"), over("BEGIN{exit 300}"), over("BEGIN{exit -1} END{print 1}"),
		over("{print FILENAME,NR,$0}", "in", "in2", "in", "none", "in"),
		over("{c[$1]+=$2;print $1 > (\"o\" NR%2);print NR} END{for(k in c)print k,c[k] >> \"sum\";exit 5}", "in", "in2"),
		over("function f(n,a,k){a[n]=n;if(n<=0)return \"z\";for(k in a)return f(n-1) k;return 5} {print f(2),$1 >> (\"o\" $2)} END{print f(1)}", "in"),
		over("function f(n){print n > \"deep\";f(n+1)} BEGIN{f(1)}"),
		over("function f(n){if(n>3)exit 9;print n >> \"f\";return f(n+1)} {f(1);print 1} END{print 2}", "in"),
		over("{sub(/[0-9]/,\"<&>\");print;$3=rand();print > \"o\"} NR==2{srand(NR)} END{print rand(),srand(1);exit}", "in", "in2"),
		over("BEGIN{FS=\"\";OFS=\";\";ORS=\"|\"} {NF=2;print;$(NF+2)=1;print $1,$4 > \"x.y_z-1\"}", "in2"),
		over("BEGIN{x=sprintf(\"%999s\",1);x=x x x x;print x;print x x}"),
		over("{$600=1}", "in"), over("{print 1;print 2 > $1;printf \"%q\"}", "in"),
		over("BEGIN{while(i++<40)print i > (\"o\" i%7)} END{printf \"%s\",i}"),
		over("BEGIN{print 1 > \"journal\"}"), over("BEGIN{print 1;print 2 >> \"journal.new\"}"), over("{print > FILENAME}", "in"), over("{print >> FILENAME}", "in"),
		over("BEGIN{print 1 > \"stdout\";print 2 > \"no name\"}"), over("BEGIN{print > \"\"}"), over("BEGIN{print > \"B\"}"),
		over("BEGIN{x=sprintf(\"%040d\",1);print > x;print > (x 1)}"),
	)
}

// shown: all files but the journal's.
func shown(d *disk.Disk) map[string]string {
	m := map[string]string{}
	for name, text := range d.All() {
		if name != journal.File && name != journal.Temp {
			m[name] = text
		}
	}
	return m
}

// all files, the journal's too.
func all(d *disk.Disk) map[string]string {
	return maps.Collect(d.All())
}

// made: what Made is to answer of files.
func made(files map[string]string) []job.Length {
	var l []job.Length
	for _, name := range slices.Sorted(maps.Keys(files)) {
		l = append(l, job.Length{Name: name, Size: len(files[name])})
	}
	return l
}

// check holds a job, and the files on its disk, against an unbroken run of so many steps.
func (x plan) check(t *testing.T, d *disk.Disk, j *job.Job, l []moment) {
	t.Helper()
	if j.Steps() < 0 || j.Steps() >= len(l) {
		t.Fatalf("%q: %d steps, %d in all", x.source, j.Steps(), len(l)-1)
	}
	want := l[j.Steps()]
	status, e := j.Code()
	if j.Over() != want.over || status != want.status || e != want.err {
		t.Fatalf("%q behind %d steps: over %v, %d, %d, want %v, %d, %d", x.source, j.Steps(), j.Over(), status, e, want.over, want.status, want.err)
	}
	if !slices.Equal(j.Made(), made(want.files)) {
		t.Fatalf("%q behind %d steps: Made %v, want %v", x.source, j.Steps(), j.Made(), made(want.files))
	}
	files := maps.Clone(x.lie)
	maps.Copy(files, want.files)
	if got := shown(d); !maps.Equal(got, files) {
		t.Fatalf("%q behind %d steps: %q, want %q", x.source, j.Steps(), got, files)
	}
}

// start: of a job that can't fail.
func start(t *testing.T, d *disk.Disk, spec job.Spec) *job.Job {
	t.Helper()
	j, at, e := job.Start(d, spec)
	if e != api.OK || at != 0 || j == nil {
		t.Fatalf("%.80q: Start: %d at %d", spec.Source, e, at)
	}
	return j
}

// idle: does a call do no deed? The disk would die at the first one.
func idle(d *disk.Disk, call func()) bool {
	d.Arm(0)
	call()
	dead := d.Dead()
	d.Arm(-1)
	return !dead
}

// refused: did Start answer an error, and nothing beside it?
func refused(d *disk.Disk, spec job.Spec, place int, e api.Errno) bool {
	j, at, got := job.Start(d, spec)
	return j == nil && at == place && got == e
}

func many(s string, n int) string {
	return strings.Repeat(s, n)
}
