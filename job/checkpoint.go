package job

import (
	"scribe/api"
	"scribe/pack"
	"scribe/state"
	"scribe/sum"
	"scribe/vm"
)

// taskOf: which job it is, as bytes: the program's text, and what its inputs are.
func taskOf(source string, in []vm.File) string {
	var w pack.Writer
	w.Text(source)
	for _, f := range in {
		w.Text(f.Name)
		w.Int(len(f.Text))
		w.Text(sum.Hex(sum.Of(f.Text)))
	}
	return w.Bytes()
}

// text: a checkpoint of the job as it is.
func (j *Job) text() string {
	return write(j.task, j.files, state.Write(j.machine.State))
}

// write: a checkpoint as bytes: the job, its files, the machine's state.
func write(task string, f files, machine string) string {
	var w pack.Writer
	w.Open()
	w.Text(task)
	w.Open()
	for _, name := range names(f.there) {
		w.Text(name)
	}
	w.Close()
	w.Open()
	for _, name := range names(f.made) {
		w.Text(name)
		w.Int(f.made[name])
	}
	w.Close()
	w.Text(machine)
	w.Close()
	return w.Bytes()
}

// read: the files and the machine's state of a checkpoint of a job; false: the text is none.
func read(text, task string) (files, string, bool) {
	f := files{there: map[string]struct{}{}, made: map[string]int{}}
	r := pack.Read(text)
	r.Open()
	r.Text(len(task))
	r.Open()
	for r.More() {
		f.there[r.Text(api.MaxName)] = struct{}{}
	}
	r.Close()
	r.Open()
	for r.More() {
		name := r.Text(api.MaxName)
		f.made[name] = r.Int()
	}
	r.Close()
	machine := r.Text(len(text))
	// There is one spelling: of any other text, or of another job's, this wouldn't be it.
	return f, machine, write(task, f, machine) == text
}
