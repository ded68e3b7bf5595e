package vm_test

import (
	"fmt"
	"slices"
	"testing"

	"scribe/api"
	"scribe/vm"
)

// asked is an output that tells what it is asked, and answers one of these with an error.
type asked struct {
	log  []string
	bad  int // the number of the one
	with api.Errno
}

func (a *asked) ask(what string) api.Errno {
	a.log = append(a.log, what)
	if len(a.log)-1 == a.bad {
		return a.with
	}
	return api.OK
}

func (a *asked) output() vm.Output {
	return vm.Output{
		Begin:  func(name string) api.Errno { return a.ask("begin " + name) },
		Append: func(name, text string) api.Errno { return a.ask("append " + name + " " + text) },
	}
}

// P17.1: what the output is asked, and when; whatever its answer is but ErrArg stops the machine there.
func TestOutput(t *testing.T) {
	const source = "BEGIN{printf \"1\";printf \"2\" > \"a\";printf \"3\" >> \"b\";printf \"4\" > \"b\";printf \"\" > \"stdout\";printf \"5\" > \"a\"}"
	want := []string{"begin stdout", "append stdout 1", "begin a", "append a 2", "append b 3", "append b 4", "append stdout ", "append a 5"}
	whole := &asked{bad: -1}
	m := vm.New(program(t, source), nil, whole.output())
	m.Run(enough)
	if !slices.Equal(whole.log, want) || !m.Over() {
		t.Fatalf("%q, want %q", whole.log, want)
	}
	steps := m.Steps
	for bad := range want {
		for e := api.OK - 1; e <= api.ErrRun+1; e++ {
			for _, size := range []int{1, enough} {
				a := &asked{bad: bad, with: e}
				m := vm.New(program(t, source), nil, a.output())
				got := api.OK
				for got == api.OK && !m.Over() {
					got = m.Run(size)
				}
				status, err := m.Code()
				told := fmt.Sprint(got, m.Over(), status, err, len(a.log))
				expect := ""
				switch e {
				case api.OK:
					expect = fmt.Sprint(api.OK, true, 0, api.OK, len(want))
				case api.ErrArg:
					expect = fmt.Sprint(api.OK, true, 0, api.ErrRun, bad+1)
				default:
					expect = fmt.Sprint(e, false, 0, api.OK, bad+1)
				}
				if told != expect || !slices.Equal(a.log, want[:len(a.log)]) || m.Steps > steps {
					t.Errorf("%q is answered %d, in pieces of %d: %s, want %s; %q", want[bad], e, size, told, expect, a.log)
				}
				// It stopped there: nothing more is asked of the output.
				if m.Run(enough); len(a.log) > bad+1 && e != api.OK {
					t.Errorf("%q is answered %d: asked again: %q", want[bad], e, a.log)
				}
			}
		}
	}
}

// P17.3: a machine that stopped did as many steps in pieces as at once.
func TestStopped(t *testing.T) {
	for bad := range 6 {
		var counts []int
		for _, size := range []int{1, 2, 5, enough} {
			a := &asked{bad: bad, with: api.ErrFull}
			m := vm.New(program(t, "{print;print > \"o\"}"), files("a\nb\n"), a.output())
			for m.Run(size) == api.OK && !m.Over() {
			}
			counts = append(counts, m.Steps)
		}
		if len(slices.Compact(counts)) != 1 {
			t.Errorf("%v steps", counts)
		}
	}
}

// P1: an output without functions takes all.
func TestNoOutput(t *testing.T) {
	m := vm.New(program(t, "{print;print > \"\";print >> \"a\"} END{exit NR}"), files("a\nb"), vm.Output{})
	e := m.Run(enough)
	if status, err := m.Code(); e != api.OK || !m.Over() || status != 2 || err != api.OK {
		t.Errorf("Run: %d; %d, %d", e, status, err)
	}
}
