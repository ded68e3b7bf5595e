package disk_test

import (
	"iter"
	"maps"
	"slices"
	"strconv"
	"strings"
	"testing"

	"scribe/api"
	"scribe/disk"
)

// model is the chapter's words, without a thought of speed: places of files by names, and two texts a file.
type model struct {
	now, safe map[string]int
	bytes     []string
	kept      []string
	quota     int
	armed     bool
	left      int
	dead      bool
}

func newModel(quota int) *model {
	return &model{now: map[string]int{}, safe: map[string]int{}, quota: max(quota, 0)}
}

func (m *model) dies() bool {
	if !m.armed {
		return false
	}
	m.left--
	m.dead = m.left < 0
	return m.dead
}

func (m *model) there(name string) bool {
	_, ok := m.now[name]
	return ok
}

func (m *model) make(t, kept string) int {
	m.bytes, m.kept = append(m.bytes, t), append(m.kept, kept)
	return len(m.bytes) - 1
}

func (m *model) Append(name, t string) api.Errno {
	switch {
	case m.dead:
		return api.ErrDead
	case !disk.Name(name):
		return api.ErrArg
	case !m.there(name) && len(m.now) >= 100:
		return api.ErrFull
	case m.Used()+len(t) > m.quota:
		return api.ErrFull
	case m.there(name) && len(m.bytes[m.now[name]])+len(t) > 1<<20 || len(t) > 1<<20:
		return api.ErrBig
	}
	if !m.there(name) {
		m.now[name] = m.make("", "")
	}
	m.bytes[m.now[name]] += t
	if m.dies() {
		return api.ErrDead
	}
	return api.OK
}

func (m *model) Truncate(name string, n int) api.Errno {
	switch {
	case m.dead:
		return api.ErrDead
	case !m.there(name):
		return api.ErrNone
	case n < 0 || n > len(m.bytes[m.now[name]]):
		return api.ErrArg
	case m.dies():
		return api.ErrDead
	}
	m.bytes[m.now[name]] = m.bytes[m.now[name]][:n]
	return api.OK
}

func (m *model) Sync(name string) api.Errno {
	switch {
	case m.dead:
		return api.ErrDead
	case !m.there(name):
		return api.ErrNone
	case m.dies():
		return api.ErrDead
	}
	m.kept[m.now[name]] = m.bytes[m.now[name]]
	return api.OK
}

func (m *model) SyncDir() api.Errno {
	if m.dead || m.dies() {
		return api.ErrDead
	}
	m.safe = maps.Clone(m.now)
	return api.OK
}

func (m *model) Rename(from, to string) api.Errno {
	switch {
	case m.dead:
		return api.ErrDead
	case !m.there(from):
		return api.ErrNone
	case !disk.Name(to):
		return api.ErrArg
	case m.dies():
		return api.ErrDead
	}
	if from != to {
		m.now[to] = m.now[from]
		delete(m.now, from)
	}
	return api.OK
}

func (m *model) Remove(name string) api.Errno {
	switch {
	case m.dead:
		return api.ErrDead
	case !m.there(name):
		return api.ErrNone
	case m.dies():
		return api.ErrDead
	}
	delete(m.now, name)
	return api.OK
}

func (m *model) Read(name string, at, n int) (string, api.Errno) {
	switch {
	case m.dead:
		return "", api.ErrDead
	case !m.there(name):
		return "", api.ErrNone
	case at < 0 || n < 0:
		return "", api.ErrArg
	}
	s := ""
	for i, c := range []byte(m.bytes[m.now[name]]) {
		if i >= at && i-at < n {
			s += string([]byte{c})
		}
	}
	return s, api.OK
}

func (m *model) Size(name string) (int, api.Errno) {
	switch {
	case m.dead:
		return 0, api.ErrDead
	case !m.there(name):
		return 0, api.ErrNone
	}
	return len(m.bytes[m.now[name]]), api.OK
}

func (m *model) All() iter.Seq2[string, string] {
	return func(yield func(string, string) bool) {
		for _, name := range slices.Sorted(maps.Keys(m.now)) {
			if m.dead || !yield(name, m.bytes[m.now[name]]) {
				return
			}
		}
	}
}

func (m *model) Used() int {
	n := 0
	for _, i := range m.now {
		n += len(m.bytes[i])
	}
	return n
}

func (m *model) Quota(n int) { m.quota = max(n, 0) }

func (m *model) Dead() bool { return m.dead }

func (m *model) Arm(n int) {
	if !m.dead {
		m.armed, m.left = n >= 0, n
	}
}

func (m *model) Put(name, t string) api.Errno {
	if !disk.Name(name) || len(t) > 1<<20 {
		return api.ErrArg
	}
	i := m.make(t, t)
	m.now[name], m.safe[name] = i, i
	return api.OK
}

func (m *model) Crash(keeps []int, names bool) {
	if !names {
		m.now = maps.Clone(m.safe)
	}
	for i, name := range slices.Sorted(maps.Keys(m.now)) {
		f := m.now[name]
		more, ok := strings.CutPrefix(m.bytes[f], m.kept[f])
		if !ok || i >= len(keeps) || keeps[i] < 0 {
			more = ""
		} else if keeps[i] < len(more) {
			more = more[:keeps[i]]
		}
		m.bytes[f] = m.kept[f] + more
		m.kept[f] = m.bytes[f]
	}
	m.safe = maps.Clone(m.now)
	m.dead, m.armed = false, false
}

// look: all that can be seen of a disk without a deed.
func look(d store) string {
	var s strings.Builder
	s.WriteString(files(d) + " " + strconv.Itoa(d.Used()) + strconv.FormatBool(d.Dead()))
	for _, name := range []string{"a", "b", "c", "A"} {
		n, e := d.Size(name)
		t, f := d.Read(name, 1, 2)
		s.WriteString(" " + strconv.Itoa(n) + "," + strconv.Itoa(int(e)) + "," + t + "," + strconv.Itoa(int(f)))
	}
	return s.String()
}

// call is one of a disk, with what it answers.
type call func(d store) api.Errno

// quiet is a call without an answer.
func quiet(f func(d store)) call {
	return func(d store) api.Errno {
		f(d)
		return api.OK
	}
}

func fewCalls() []call {
	return []call{
		func(d store) api.Errno { return d.Append("a", "12") },
		func(d store) api.Errno { return d.Append("a", "x") },
		func(d store) api.Errno { return d.Append("b", "345") },
		func(d store) api.Errno { return d.Truncate("a", 1) },
		func(d store) api.Errno { return d.Truncate("b", 2) },
		func(d store) api.Errno { return d.Sync("a") },
		func(d store) api.Errno { return d.Sync("b") },
		func(d store) api.Errno { return d.SyncDir() },
		func(d store) api.Errno { return d.Rename("a", "b") },
		func(d store) api.Errno { return d.Rename("b", "a") },
		func(d store) api.Errno { return d.Rename("b", "b") },
		func(d store) api.Errno { return d.Remove("a") },
		func(d store) api.Errno { return d.Put("b", "67") },
		quiet(func(d store) { d.Arm(0) }),
		quiet(func(d store) { d.Arm(1) }),
		quiet(func(d store) { d.Quota(2) }),
		quiet(func(d store) { d.Crash([]int{1, 9}, false) }),
		quiet(func(d store) { d.Crash([]int{-1, 1}, true) }),
	}
}

// P3.1, P3.2: each row of four calls of these, one behind the other, and a crash of each kind behind it.
func TestEachRowOfCalls(t *testing.T) {
	calls := fewCalls()
	n := len(calls)
	for row := range n * n * n * n {
		for last := range 3 {
			d, m := disk.New(8), newModel(8)
			path := ""
			for i, rest := 0, row; i < 4; i, rest = i+1, rest/n {
				got, want := calls[rest%n](d), calls[rest%n](m)
				path += " " + strconv.Itoa(rest%n)
				if got != want {
					t.Fatalf("calls%s: %d, want %d", path, got, want)
				}
			}
			switch last {
			case 1:
				d.Crash([]int{9}, false)
				m.Crash([]int{9}, false)
			case 2:
				d.Crash([]int{0, 2}, true)
				m.Crash([]int{0, 2}, true)
			}
			if got, want := look(d), look(m); got != want {
				t.Fatalf("calls%s, %d: %q, want %q", path, last, got, want)
			}
		}
	}
}

// one is a call of a kind and with arguments of a rule.
func (n *numbers) one() call {
	names := []string{"a", "b", "c", "A", "", "a-z_0.9", strings.Repeat("n", 40), strings.Repeat("n", 41)}
	name, other := names[n.next(len(names))], names[n.next(len(names))]
	text := strings.Repeat("0123456789", 2)[n.next(10):][:n.next(8)]
	number := n.next(12) - 2
	switch n.next(22) {
	case 0, 1, 2, 3, 4:
		return func(d store) api.Errno { return d.Append(name, text) }
	case 5, 6:
		return func(d store) api.Errno { return d.Truncate(name, number) }
	case 7, 8:
		return func(d store) api.Errno { return d.Sync(name) }
	case 9, 10:
		return func(d store) api.Errno { return d.SyncDir() }
	case 11, 12, 13:
		return func(d store) api.Errno { return d.Rename(name, other) }
	case 14, 15:
		return func(d store) api.Errno { return d.Remove(name) }
	case 16:
		return func(d store) api.Errno { return d.Put(name, text) }
	case 17:
		return quiet(func(d store) { d.Arm(number) })
	case 18:
		return quiet(func(d store) { d.Quota(number * 5) })
	case 19:
		return func(d store) api.Errno {
			_, e := d.Read(name, number, 2)
			return e
		}
	}
	keeps := make([]int, n.next(7))
	for i := range keeps {
		keeps[i] = n.next(12) - 2
	}
	names2 := n.next(2) == 0
	return quiet(func(d store) { d.Crash(keeps, names2) })
}

// P3.1, P3.2: long rows of calls; and what All answered at each place stays what it was (K3).
func TestLongRowsOfCalls(t *testing.T) {
	for seed := range numbers(2000) {
		n := seed
		d, m := disk.New(30), newModel(30)
		var held []iter.Seq2[string, string]
		var were []string
		for i := range 120 {
			held, were = append(held, d.All()), append(were, files(m))
			f := n.one()
			if got, want := f(d), f(m); got != want {
				t.Fatalf("row %d, call %d: %d, want %d", seed, i, got, want)
			}
			if got, want := look(d), look(m); got != want {
				t.Fatalf("row %d, call %d: %q, want %q", seed, i, got, want)
			}
		}
		for i, all := range held {
			if got := told(all); got != were[i] {
				t.Fatalf("row %d, All ahead of call %d: %q, want %q", seed, i, got, were[i])
			}
		}
	}
}
