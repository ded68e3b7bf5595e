package vm_test

import (
	"maps"
	"strconv"
	"testing"

	"scribe/api"
	"scribe/code"
	"scribe/vm"
)

// sheets is an output: files by names. It refuses the empty name, and such as begin with a hash.
type sheets map[string]string

func accepted(name string) bool {
	return name != "" && name[0] != '#'
}

func (s sheets) begin(name string) api.Errno {
	if !accepted(name) {
		return api.ErrArg
	}
	s[name] = ""
	return api.OK
}

func (s sheets) add(name, text string) api.Errno {
	if !accepted(name) {
		return api.ErrArg
	}
	s[name] += text
	return api.OK
}

func (s sheets) output() vm.Output {
	return vm.Output{Begin: s.begin, Append: s.add}
}

// files: texts as inputs of the names in0, in1 ..
func files(texts ...string) []vm.File {
	var l []vm.File
	for i, s := range texts {
		l = append(l, vm.File{Name: "in" + strconv.Itoa(i), Text: s})
	}
	return l
}

// program: of a text that is right, as the tests here have them.
func program(t *testing.T, s string) *code.Program {
	t.Helper()
	p, at, e := code.Compile(s)
	if e != api.OK {
		t.Fatalf("Compile(%q): %d at %d", s, e, at)
	}
	return p
}

// enough steps for all programs that are meant to end.
const enough = 2000000

// end: what a machine says that is over.
func end(t *testing.T, m *vm.Machine, out sheets) told {
	t.Helper()
	status, e := m.Code()
	return told{files: out, over: m.Over(), status: status, err: e}
}

// played: what a text's run over inputs comes to, as a machine does it at once, and how many steps it takes.
func played(t *testing.T, s string, in []vm.File) (told, int) {
	t.Helper()
	out := sheets{}
	m := vm.New(program(t, s), in, out.output())
	if m.Over() || m.Part != 0 || m.Steps != 0 {
		t.Fatalf("%q: a machine that hasn't begun: %v, part %d, %d steps", s, m.Over(), m.Part, m.Steps)
	}
	if e := m.Run(enough); e != api.OK {
		t.Fatalf("%q: Run: %d", s, e)
	}
	return end(t, m, out), m.Steps
}

func alike(a, b told) bool {
	return maps.Equal(a.files, b.files) && a.over == b.over && a.status == b.status && a.err == b.err
}

// want: what a run is to say.
type want struct {
	source string
	in     []string
	out    string // stdout
	status int
	err    api.Errno
}

// try holds a run against what is wanted, against the model, and against runs of it in pieces.
func try(t *testing.T, l []want) {
	t.Helper()
	for _, x := range l {
		in := files(x.in...)
		got, steps := played(t, x.source, in)
		if got.files["stdout"] != x.out || got.status != x.status || got.err != x.err || !got.over {
			t.Errorf("%q over %q: %q, %d, %d, over: %v; want %q, %d, %d", x.source, x.in, got.files["stdout"], got.status, got.err, got.over, x.out, x.status, x.err)
			continue
		}
		checkWalk(t, x.source, in, got, steps)
		for _, size := range []int{1, 2, 7} {
			if steps < 20000 || size == 7 {
				checkPieces(t, x.source, in, got, steps, size)
			}
		}
	}
}

// checkWalk holds a run against the model.
func checkWalk(t *testing.T, s string, in []vm.File, got told, steps int) {
	t.Helper()
	words, count := walked(s, in, accepted, enough)
	if !alike(got, words) {
		t.Errorf("%q over %q: %q, %d, %d; by the words %q, %d, %d", s, in, got.files, got.status, got.err, words.files, words.status, words.err)
	}
	// The run as a whole is one more.
	if steps > 10*(count+1) {
		t.Errorf("%q over %q: %d steps, %d nodes, blocks and records", s, in, steps, count)
	}
}

// checkPieces holds a run in pieces against the whole one.
func checkPieces(t *testing.T, s string, in []vm.File, whole told, steps, size int) {
	t.Helper()
	out := sheets{}
	m := vm.New(program(t, s), in, out.output())
	for done := 0; done < steps; done += size {
		if m.Over() || m.Steps != done {
			t.Errorf("%q in pieces of %d: %d steps behind %d, over: %v", s, size, m.Steps, done, m.Over())
			return
		}
		if status, e := m.Code(); status != 0 || e != api.OK {
			t.Errorf("%q in pieces of %d: Code %d, %d behind %d", s, size, status, e, done)
		}
		if e := m.Run(size); e != api.OK {
			t.Errorf("%q in pieces of %d: Run: %d", s, size, e)
		}
	}
	if got := end(t, m, out); !alike(got, whole) || m.Steps != steps {
		t.Errorf("%q in pieces of %d: %q, %d, %d, %d steps; want %q, %d, %d, %d steps", s, size, out, got.status, got.err, m.Steps, whole.files, whole.status, whole.err, steps)
	}
}

// machineOf: a machine that hasn't begun.
func machineOf(t *testing.T, s string, in []vm.File, out sheets) *vm.Machine {
	t.Helper()
	return vm.New(program(t, s), in, out.output())
}
