package job

import (
	"scribe/api"
	"scribe/code"
	"scribe/disk"
	"scribe/journal"
	"scribe/state"
	"scribe/vm"
)

// Start: a job begins, or goes on where the checkpoint that is kept says; the place of an error in the text.
func Start(d *disk.Disk, spec Spec) (*Job, int, api.Errno) {
	if spec.Interval < 1 || spec.Interval > MaxInterval {
		return nil, 0, api.ErrArg
	}
	p, at, e := code.Compile(spec.Source)
	if e != api.OK {
		return nil, at, e
	}
	in, e := readAll(d, spec.Inputs)
	if e != api.OK {
		return nil, 0, e
	}
	kept, e := journal.Load(d)
	if e == api.ErrDead {
		return nil, 0, e
	}
	j := &Job{disk: d, task: taskOf(spec.Source, in), interval: spec.Interval}
	if s, ok := j.recall(kept, p, in); ok {
		e = j.goOn(p, in, s)
	} else {
		e = j.begin(p, in)
	}
	if e != api.OK {
		return nil, 0, e
	}
	return j, 0, api.OK
}

// readAll: the inputs of these names.
func readAll(d *disk.Disk, l []string) ([]vm.File, api.Errno) {
	var in []vm.File
	for _, name := range l {
		if isJournals(name) {
			return nil, api.ErrArg
		}
		n, e := d.Size(name)
		if e != api.OK {
			return nil, e
		}
		text, e := d.Read(name, 0, n)
		if e != api.OK {
			return nil, e
		}
		in = append(in, vm.File{Name: name, Text: text})
	}
	return in, api.OK
}

// recall takes the files out of what the journal keeps, and answers the machine's state; false: it keeps no checkpoint from which this job can go on.
func (j *Job) recall(kept string, p *code.Program, in []vm.File) (vm.State, bool) {
	f, machine, ok := read(kept, j.task)
	if !ok || !f.lie(j.disk) {
		return vm.State{}, false
	}
	for _, x := range in {
		if !f.was(x.Name) {
			return vm.State{}, false
		}
	}
	s, e := state.Read(machine, p, in)
	if e != api.OK {
		return vm.State{}, false
	}
	j.files = f
	return s, true
}

// lie: do these files lie on a disk, those that were made at least as long as they were?
func (f files) lie(d *disk.Disk) bool {
	for name := range f.there {
		if _, e := d.Size(name); e != api.OK || isJournals(name) {
			return false
		}
	}
	for name, size := range f.made {
		n, e := d.Size(name)
		if e != api.OK || size < 0 || size > n || !f.mayMake(name) {
			return false
		}
	}
	return true
}

// goOn: the job is as it was at its last checkpoint. What its disk has behind that goes.
func (j *Job) goOn(p *code.Program, in []vm.File, s vm.State) api.Errno {
	j.machine = vm.Restore(p, in, j.output(), s)
	j.last = j.Steps()
	for _, name := range j.strangers() {
		if e := j.disk.Remove(name); e != api.OK {
			return e
		}
	}
	for _, name := range names(j.made) {
		if e := cut(j.disk, name, j.made[name]); e != api.OK {
			return e
		}
	}
	return api.OK
}

// strangers: the files that the job doesn't know.
func (j *Job) strangers() []string {
	var l []string
	for name := range j.disk.All() {
		if !j.knows(name) {
			l = append(l, name)
		}
	}
	return l
}

// cut: a file has its first bytes alone. Nothing is done to one that has no others.
func cut(d *disk.Disk, name string, size int) api.Errno {
	n, e := d.Size(name)
	if e != api.OK || n == size {
		return e
	}
	return d.Truncate(name, size)
}

// begin: the job has done nothing as yet, and all files that there are aren't its own.
func (j *Job) begin(p *code.Program, in []vm.File) api.Errno {
	j.files = files{there: map[string]struct{}{}, made: map[string]int{}}
	for _, name := range j.strangers() {
		j.there[name] = struct{}{}
	}
	j.machine = vm.New(p, in, j.output())
	// A crash behind the first checkpoint is to leave what was there as it was, the inputs above all.
	if e := syncAll(j.disk, names(j.there)); e != api.OK {
		return e
	}
	return j.checkpoint()
}

// output: what the machine prints goes to the job's files.
func (j *Job) output() vm.Output {
	return vm.Output{Begin: j.Begin, Append: j.Append}
}
