package script

import (
	"slices"
	"strings"

	"scribe/api"
	"scribe/disk"
	"scribe/job"
	"scribe/journal"
	"scribe/vm"
)

// Result is what came of a step: the error; of a job that runs then how many steps it has, whether it is over, and how it ended.
type Result struct {
	Err    api.Errno
	Steps  int
	Over   bool
	Status int
	Ended  api.Errno
}

// World is a disk, a job's spec, and the job, if it runs.
type World struct {
	// Starts is how many times the job was started, Done how many steps all runs together did.
	Starts, Done int

	disk *disk.Disk
	spec job.Spec
	job  *job.Job // nil: none runs
}

// New: a world with inputs, which the job reads behind those that its spec names.
func New(spec job.Spec, in []vm.File, quota int) (*World, api.Errno) {
	w := &World{disk: disk.New(quota), spec: copySpec(spec)}
	for _, f := range in {
		if e := w.disk.Put(f.Name, f.Text); e != api.OK {
			return nil, e
		}
		w.spec.Inputs = append(w.spec.Inputs, strings.Clone(f.Name))
	}
	return w, api.OK
}

// copySpec: a spec that nobody else can change.
func copySpec(spec job.Spec) job.Spec {
	x := job.Spec{Source: strings.Clone(spec.Source), Interval: spec.Interval}
	for _, name := range spec.Inputs {
		x.Inputs = append(x.Inputs, strings.Clone(name))
	}
	return x
}

// Do: one step.
func (w *World) Do(s Step) Result {
	r := Result{Err: w.do(s)}
	if w.job != nil {
		r.Steps, r.Over = w.job.Steps(), w.job.Over()
		r.Status, r.Ended = w.job.Code()
	}
	return r
}

// do does a step; its error.
func (w *World) do(s Step) api.Errno {
	switch s.Kind {
	case Run:
		return w.run(s.N)
	case Start:
		return w.start()
	case Arm:
		w.disk.Arm(s.N)
	case Crash:
		w.job = nil
		w.disk.Crash(s.Keeps, s.Names)
	case Quota:
		w.disk.Quota(s.N)
	case Spoil:
		w.job = nil
		return w.disk.Put(journal.File, s.Text)
	default:
		return api.ErrArg
	}
	return api.OK
}

// run lets the job do so many steps. Those that it did ahead of an error count, too.
func (w *World) run(fuel int) api.Errno {
	if w.job == nil {
		return api.ErrNone
	}
	was := w.job.Steps()
	e := w.job.Run(max(fuel, 0))
	w.Done += w.job.Steps() - was
	if e != api.OK {
		w.job = nil
	}
	return e
}

// start: the job runs from now on, unless it is refused.
func (w *World) start() api.Errno {
	w.Starts++
	j, _, e := job.Start(w.disk, w.spec)
	w.job = j
	return e
}

// Play: steps, one behind the other.
func (w *World) Play(l []Step) []Result {
	var results []Result
	for _, s := range l {
		results = append(results, w.Do(s))
	}
	return results
}

// Finish: whatever happened: there is room, nothing dies any more; the job is started and runs.
func (w *World) Finish(quota, fuel int) Result {
	w.Do(Step{Kind: Quota, N: quota})
	w.Do(Step{Kind: Arm, N: -1})
	if w.disk.Dead() {
		w.Do(Step{Kind: Crash})
	}
	r := w.Do(Step{Kind: Start})
	if r.Err != api.OK {
		return r
	}
	return w.Do(Step{Kind: Run, N: fuel})
}

// Files: all files but the journal's and the inputs, by rising names.
func (w *World) Files() []vm.File {
	var l []vm.File
	for name, text := range w.disk.All() {
		if !w.isGiven(name) {
			l = append(l, vm.File{Name: name, Text: text})
		}
	}
	return l
}

// isGiven: is a file an input, or one of the journal's?
func (w *World) isGiven(name string) bool {
	return name == journal.File || name == journal.Temp || slices.Contains(w.spec.Inputs, name)
}
