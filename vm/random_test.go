package vm_test

import (
	"math/rand"
	"strings"
	"testing"

	"scribe/api"
	"scribe/vm"
)

// agree holds a random run against the model, at once and in pieces; what it comes to.
func agree(t *testing.T, r *rand.Rand, s string, in []vm.File, most int) told {
	t.Helper()
	words, count := walked(s, in, accepted, most)
	out := sheets{}
	m := machineOf(t, s, in, out)
	if !words.over {
		// The model was cut off. What both printed by now, the one has at least as the beginning of the other.
		m.Run(most)
		for name, text := range out {
			if other := words.files[name]; !strings.HasPrefix(text, other) && !strings.HasPrefix(other, text) {
				t.Fatalf("%q over %q: %s: %q, by the words %q", s, in, name, text, other)
			}
		}
		return words
	}
	for bound := 10 * (count + 1); !m.Over(); {
		if m.Steps > bound {
			t.Fatalf("%q over %q: %d steps, %d nodes, blocks and records", s, in, m.Steps, count)
		}
		if e := m.Run(1 + r.Intn(50)); e != api.OK {
			t.Fatalf("%q over %q: Run: %d", s, in, e)
		}
	}
	got := end(t, m, out)
	if !alike(got, words) {
		t.Fatalf("%q over %q: %q, %d, %d; by the words %q, %d, %d", s, in, got.files, got.status, got.err, words.files, words.status, words.err)
	}
	return got
}

// P17.1, P17.2, P17.3: random programs over random inputs, against the chapter's words.
func TestRandomPrograms(t *testing.T) {
	r := rand.New(rand.NewSource(17))
	met := map[api.Errno]int{}
	cut, status, much := 0, 0, 0
	for range 15000 {
		s, in, most := written(r), files(writtenInput(r)...), 20000
		if r.Intn(5) == 0 {
			most = r.Intn(100)
		}
		got := agree(t, r, s, in, most)
		switch {
		case !got.over:
			cut++
			continue
		case got.status != 0:
			status++
		}
		met[got.err]++
		if len(got.files) > 1 {
			much++
		}
	}
	if met[api.OK] < 6000 || met[api.ErrRun] < 1000 || cut < 500 || cut > 3000 || status < 20 || much < 3000 {
		t.Errorf("%v, %d were cut off, %d have a status, %d print to many files", met, cut, status, much)
	}
}
