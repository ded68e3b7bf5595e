package script_test

import (
	"maps"
	"slices"
	"strings"
	"testing"

	"scribe/api"
	"scribe/code"
	"scribe/disk"
	"scribe/job"
	"scribe/journal"
	"scribe/script"
	"scribe/vm"
)

// enough steps for all programs that are meant to end; room for all that they print.
const (
	enough = 200000
	room   = 1 << 24
)

// plan is a program and its inputs.
type plan struct {
	source string
	in     []vm.File
}

// over: a program over inputs, each told by its name and its text.
func over(source string, in ...string) plan {
	x := plan{source: source}
	for i := 0; i < len(in); i += 2 {
		x.in = append(x.in, vm.File{Name: in[i], Text: in[i+1]})
	}
	return x
}

func (x plan) spec(interval int) job.Spec {
	return job.Spec{Source: x.source, Interval: interval}
}

// world: of this plan, with room.
func (x plan) world(t *testing.T, interval int) *script.World {
	t.Helper()
	return newWorld(t, x.spec(interval), x.in, room)
}

func newWorld(t *testing.T, spec job.Spec, in []vm.File, quota int) *script.World {
	t.Helper()
	w, e := script.New(spec, in, quota)
	if e != api.OK || w == nil || w.Starts != 0 || w.Done != 0 {
		t.Fatalf("New: %v, %d", w, e)
	}
	return w
}

// moment is what a run that was never broken off has behind so many steps.
type moment struct {
	files []vm.File
	script.Result
}

// moments: of a machine whose output lies in memory: behind each number of steps, up to the end.
func (x plan) moments(t *testing.T) []moment {
	t.Helper()
	p, at, e := code.Compile(x.source)
	if e != api.OK {
		t.Fatalf("Compile(%q): %d at %d", x.source, e, at)
	}
	files := map[string]string{}
	print := func(name, begin, text string) api.Errno {
		isInput := slices.ContainsFunc(x.in, func(f vm.File) bool { return f.Name == name })
		if !disk.Name(name) || isInput || name == journal.File || name == journal.Temp {
			return api.ErrArg
		}
		files[name] = begin + text
		return api.OK
	}
	m := vm.New(p, x.in, vm.Output{
		Begin:  func(name string) api.Errno { return print(name, "", "") },
		Append: func(name, text string) api.Errno { return print(name, files[name], text) },
	})
	var l []moment
	for {
		at := moment{files: listed(files), Result: script.Result{Steps: len(l), Over: m.Over()}}
		at.Status, at.Ended = m.Code()
		l = append(l, at)
		if m.Over() || len(l) > enough {
			return l
		}
		m.Run(1)
	}
}

// listed: files by rising names.
func listed(files map[string]string) []vm.File {
	var l []vm.File
	for _, name := range slices.Sorted(maps.Keys(files)) {
		l = append(l, vm.File{Name: name, Text: files[name]})
	}
	return l
}

// isFiles: are these a world's files?
func isFiles(t *testing.T, w *script.World, namesAndTexts ...string) {
	t.Helper()
	if got, want := w.Files(), over("", namesAndTexts...).in; !slices.Equal(got, want) {
		t.Errorf("Files: %q, want %q", got, want)
	}
}

// play: a script's text in a world. The errors as words, one a step; what came of the last one.
func play(t *testing.T, w *script.World, text string) (string, script.Result) {
	t.Helper()
	l, at, e := script.Parse(text)
	if e != api.OK {
		t.Fatalf("Parse(%q): %d at %d", text, e, at)
	}
	results := w.Play(l)
	if len(results) != len(l) {
		t.Fatalf("Play: %d results of %d steps", len(results), len(l))
	}
	errors, last := "", script.Result{}
	for _, r := range results {
		errors += " " + nameOf(r.Err)
		last = r
	}
	return strings.TrimPrefix(errors, " "), last
}

func nameOf(e api.Errno) string {
	names := map[api.Errno]string{api.OK: "ok", api.ErrArg: "arg", api.ErrNone: "none", api.ErrFull: "full", api.ErrDead: "dead", api.ErrBig: "big", api.ErrSyntax: "syntax", api.ErrBan: "ban", api.ErrKind: "kind", api.ErrDeep: "deep"}
	if s := names[e]; s != "" {
		return s
	}
	return "another"
}

// plays: do a script's steps have just these errors, and is this what came of the last one?
func plays(t *testing.T, w *script.World, text, errors string, last script.Result) {
	t.Helper()
	got, r := play(t, w, text)
	if got != errors || r != last {
		t.Errorf("%q: %s, %+v, want %s, %+v", text, got, r, errors, last)
	}
}

// small plans: each has few steps.
func small() []plan {
	const in, more = "a 1\nb 2\na 3\n", "c 4\n\nb 5"
	return []plan{
		over("BEGIN{print 1}"),
		over("{n+=$2} END{print n/NR}", "in", in),
		over("{print;print NR > (\"o\" NR%2)} END{exit NR}", "in", in),
		over("BEGIN{printf \"\" > \"empty\";print 1 > \"b\";print 2 >> \"a\";print 3 > \"stdout\";print 4 > \"a\";exit 7}"),
		over("{m[$1]=m[$1] $2} END{for(k in m)print m[k] >> k}", "in", in, "more", more),
		over("{print;print 5 > $1;if(NR>1)print > \"in\"}", "in", in),
		over("BEGIN{print 1;print 2 > \"a\";print 1/0;print 3}"),
	}
}

// large plans: with all that a state has, and with each way to end.
func large() []plan {
	const in, more = "a 1\nb 2\na 3\n", "c 4\n\nb 5"
	return append(small(),
		over(""), over("1", "none", ""), over("BEGIN{exit -1} END{print 1}"), over("END{exit 300}", "in", in),
		over("{print FILENAME,NR,$0}", "z", in, "y", more, "none", "", "z", in),
		over("function f(n,a,k){a[n]=n;if(n<=0)return \"z\";for(k in a)return f(n-1) k;return 5} {print f(2),$1 >> (\"o\" $2)} END{print f(1)}", "in", in),
		over("function f(n){print n > \"deep\";f(n+1)} BEGIN{f(1)}"),
		over("{sub(/[0-9]/,\"<&>\");print;$3=rand();print > \"o\"} NR==2{srand(NR)} END{print rand(),srand(1);exit}", "in", in, "more", more),
		over("BEGIN{FS=\"\";OFS=\";\";ORS=\"|\"} {NF=2;print;$(NF+2)=1;print $1,$4 > \"x.y_z-1\"}", "more", more),
		over("BEGIN{x=sprintf(\"%999s\",1);x=x x x x;print x;print x > \"o\";print x x}"),
		over("BEGIN{while(i++<60){a[i%7]=a[i%7] i;if(i%9==0)delete a[3];print i > (\"o\" i%5)}} END{for(k in a)print k,a[k];exit split(\"a b c\",a)}"),
		over("{n=split($0,l,\"\");for(i=n;i>0;i--)printf \"%s\",l[i];print \"\"} match($0,/[ab]/){print RSTART,RLENGTH >> \"met\"} END{printf \"%q\"}", "in", in, "in2", in),
		over("BEGIN{print 1 > \"journal.new\"}"), over("{print $1 > FILENAME}", "in", in), over("{print > \"no name\"}", "in", in), over("NR==2{next} {print} $600==1", "in", in),
	)
}
