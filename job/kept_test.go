package job_test

import (
	"maps"
	"slices"
	"strings"
	"testing"

	"scribe/api"
	"scribe/disk"
	"scribe/job"
)

func same(a, b map[string]string) bool {
	return maps.Equal(a, b)
}

// P2: what is handed in isn't changed, and may be changed behind the call; so may what is answered (K3).
func TestOwn(t *testing.T) {
	for _, x := range large() {
		l := x.moments(t)
		d := x.disk()
		inputs := append(slices.Clone(x.inputs), "spare", "spare")
		spec := job.Spec{Source: x.source, Inputs: inputs[:len(x.inputs)], Interval: 3}
		j := start(t, d, spec)
		if !slices.Equal(inputs[:len(x.inputs)], x.inputs) || inputs[len(x.inputs)] != "spare" {
			t.Fatalf("%q: the inputs are changed: %q", x.source, inputs)
		}
		for i := range inputs {
			inputs[i] = "spoilt"
		}
		for !j.Over() {
			for i, x := range j.Made() {
				j.Made()[i] = job.Length{Name: "spoilt", Size: 99 + x.Size}
			}
			j.Run(2)
			x.check(t, d, j, l)
		}
		x.check(t, d, start(t, d, x.spec(3)), l)
	}
}

// P2: no inputs are the same, nil or not (K1).
func TestNoInputs(t *testing.T) {
	x := over("BEGIN{print 1;print 2}")
	d := x.disk()
	j := start(t, d, job.Spec{Source: x.source, Interval: 2})
	if len(j.Made()) > 0 {
		t.Errorf("Made: %v", j.Made())
	}
	j.Run(4)
	if k := start(t, d, job.Spec{Source: x.source, Inputs: []string{}, Interval: 2}); k.Steps() != 4 {
		t.Errorf("it begins anew, at %d", k.Steps())
	}
}

// P2: the same calls are answered in the same way, to the last byte of the journal (K4).
func TestSameAgain(t *testing.T) {
	for _, x := range large() {
		var first []string
		for range 5 {
			var log []string
			tell := func(d *disk.Disk, e api.Errno) {
				s := string(rune('0' + e))
				for name, text := range d.All() {
					s += name + "=" + text + ";"
				}
				log = append(log, s)
			}
			d := x.disk()
			d.Arm(23)
			j, _, e := job.Start(d, x.spec(4))
			if e == api.OK {
				e = j.Run(30)
			}
			tell(d, e)
			d.Crash([]int{3, 1, 4, 1, 5}, true)
			tell(d, e)
			j, _, e = job.Start(d, x.spec(4))
			if e == api.OK {
				d.Quota(d.Used() + 900)
				e = j.Run(enough)
			}
			tell(d, e)
			if first == nil {
				first = log
			} else if !slices.Equal(log, first) {
				t.Fatalf("%q:\n%s\nahead of that\n%s", x.source, strings.Join(log, "\n"), strings.Join(first, "\n"))
			}
		}
	}
}
