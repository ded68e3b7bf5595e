package journal_test

import (
	"strconv"
	"strings"
	"testing"

	"scribe/api"
	"scribe/disk"
	"scribe/journal"
)

// kept is what Load answers.
type kept struct {
	text string
	err  api.Errno
}

func load(d *disk.Disk) kept {
	s, e := journal.Load(d)
	return kept{s, e}
}

// files: all of a disk's, as one text.
func files(d *disk.Disk) string {
	var s strings.Builder
	for name, t := range d.All() {
		s.WriteString(name + "=" + t + ";")
	}
	return s.String()
}

// start is a disk as it may be ahead of Save, and what Load answers there.
type start struct {
	what  string
	put   func(d *disk.Disk)
	was   kept
	steps int // how many deeds Save needs
}

func starts() []start {
	return []start{
		{"nothing", func(d *disk.Disk) {}, kept{"", api.ErrNone}, 4},
		{"an old text", func(d *disk.Disk) { journal.Save(d, "old") }, kept{"old", api.OK}, 4},
		{"an empty text", func(d *disk.Disk) { journal.Save(d, "") }, kept{"", api.OK}, 4},
		{"a text and what a crash left of another", func(d *disk.Disk) {
			journal.Save(d, "old")
			d.Put(journal.Temp, "scribe 1 9")
		}, kept{"old", api.OK}, 5},
		{"a text and a whole one that wasn't renamed", func(d *disk.Disk) {
			journal.Save(d, "old")
			d.Append(journal.Temp, journal.Frame("other"))
			d.Sync(journal.Temp)
		}, kept{"old", api.OK}, 5},
		{"a spoilt one", func(d *disk.Disk) { d.Put(journal.File, "spoilt") }, kept{"", api.ErrForm}, 4},
		{"a part of one", func(d *disk.Disk) { d.Put(journal.File, journal.Frame("abc")[:12]) }, kept{"", api.ErrEnd}, 4},
		{"a wrong sum", func(d *disk.Disk) { d.Put(journal.File, "scribe 1 1 00000001\na") }, kept{"", api.ErrSum}, 4},
		{"what a crash left alone", func(d *disk.Disk) { d.Put(journal.Temp, journal.Frame("other")) }, kept{"", api.ErrNone}, 5},
		{"other files", func(d *disk.Disk) {
			journal.Save(d, "old")
			d.Append("in", "1\n2\n")
			d.Append("out", "3\n")
			d.Sync("out")
		}, kept{"old", api.OK}, 4},
	}
}

func (s start) disk() *disk.Disk {
	d := disk.New(1 << 30)
	s.put(d)
	return d
}

// P4.2: Save and Load, where nothing goes wrong: the text that was saved last, in the file that the chapter names.
func TestSave(t *testing.T) {
	for _, x := range starts() {
		if got := load(x.disk()); got != x.was {
			t.Errorf("%s: Load: %v, want %v", x.what, got, x.was)
		}
		for _, s := range texts() {
			d := x.disk()
			if e := journal.Save(d, s); e != api.OK {
				t.Errorf("%s: Save(%.40q): %d", x.what, s, e)
			}
			if got := load(d); got != (kept{s, api.OK}) {
				t.Errorf("%s: Load: %.40q, %d", x.what, got.text, got.err)
			}
			if _, e := d.Size(journal.Temp); e != api.ErrNone {
				t.Errorf("%s: %s is there", x.what, journal.Temp)
			}
			if b, _ := d.Read(journal.File, 0, 1<<20); b != journal.Frame(s) {
				t.Errorf("%s: %s: %.60q", x.what, journal.File, b)
			}
		}
	}
	d := disk.New(1000)
	for i := range 100 {
		s := strconv.Itoa(i)
		if e := journal.Save(d, s); e != api.OK || load(d) != (kept{s, api.OK}) {
			t.Errorf("the %dth: %d, %v", i, e, load(d))
		}
		if d.Crash(nil, false); load(d) != (kept{s, api.OK}) {
			t.Errorf("the %dth, behind a crash: %v", i, load(d))
		}
	}
}

// P4.2: which deeds Save does, by what is there at each where it dies.
func TestSaveDeedByDeed(t *testing.T) {
	const old, part, whole = "journal=scribe 1 3 028f0140\nold;", "journal.new=x;", "journal.new=scribe 1 2 012600c4\nab;"
	for i, want := range []string{
		old + part,  // dies at Remove
		old + whole, // at Append
		old + whole, // at Sync
		old + whole, // at Rename
		"journal=scribe 1 2 012600c4\nab;",
		"journal=scribe 1 2 012600c4\nab;",
	} {
		d := disk.New(1000)
		d.Put(journal.File, "scribe 1 3 028f0140\nold")
		d.Put(journal.Temp, "x")
		d.Arm(i)
		e := journal.Save(d, "ab")
		if (e == api.OK) != (i == 5) || i < 5 && e != api.ErrDead {
			t.Errorf("armed with %d: %d", i, e)
		}
		d.Crash([]int{99, 99}, true)
		if got := files(d); got != want {
			t.Errorf("armed with %d: %q, want %q", i, got, want)
		}
	}
}

// crashes calls f with a disk for each way in which do dies and a crash keeps bytes and names; at is how many deeds were done.
func crashes(x start, do func(d *disk.Disk) api.Errno, f func(d *disk.Disk, e api.Errno, at, way int)) {
	whole := len(journal.Frame("new text"))
	for at := range x.steps + 2 {
		way := 0
		for _, names := range []bool{false, true} {
			for i := range 4 { // of which of the files some bytes are kept
				for keep := -1; keep <= whole+1; keep++ {
					keeps := make([]int, 4)
					keeps[i] = keep
					if keep%2 == 0 {
						keeps[(i+1)%4] = 9
					}
					d := x.disk()
					d.Arm(at)
					e := do(d)
					d.Crash(keeps, names)
					f(d, e, at, way)
					way++
				}
			}
		}
	}
}

// P4.2: the disk dies at each deed of Save, and is crashed with each way of keeping bytes and names.
func TestSaveThatDies(t *testing.T) {
	for _, x := range starts() {
		died := 0
		save := func(d *disk.Disk) api.Errno { return journal.Save(d, "new text") }
		crashes(x, save, func(d *disk.Disk, e api.Errno, at, way int) {
			got := load(d)
			isNew := got == kept{"new text", api.OK}
			if e == api.OK != (at >= x.steps) || e != api.OK && e != api.ErrDead {
				t.Fatalf("%s, armed with %d: Save: %d", x.what, at, e)
			}
			if got != x.was && !isNew || e == api.OK && !isNew {
				t.Fatalf("%s, armed with %d, crash %d: Load: %v", x.what, at, way, got)
			}
			if e == api.ErrDead && !isNew {
				died++
			}
			if e := journal.Save(d, "newer"); e != api.OK || load(d) != (kept{"newer", api.OK}) {
				t.Fatalf("%s, armed with %d, crash %d: the next Save: %d, %v", x.what, at, way, e, load(d))
			}
			if d.Crash(nil, false); load(d) != (kept{"newer", api.OK}) {
				t.Fatalf("%s, armed with %d, crash %d: the next Save isn't safe: %v", x.what, at, way, load(d))
			}
		})
		if died == 0 {
			t.Errorf("%s: the old one never stays", x.what)
		}
	}
}

// P4.2: a dead disk, and one that dies and dies again in Save.
func TestSaveOnADeadDisk(t *testing.T) {
	for _, x := range starts() {
		d := x.disk()
		d.Arm(0)
		d.SyncDir()
		if e := journal.Save(d, "new"); e != api.ErrDead {
			t.Errorf("%s: Save: %d", x.what, e)
		}
		if got := load(d); got != (kept{"", api.ErrDead}) {
			t.Errorf("%s: Load: %v", x.what, got)
		}
		if e := journal.Drop(d); e != api.ErrDead {
			t.Errorf("%s: Drop: %d", x.what, e)
		}
		d.Crash(nil, true)
		if got := load(d); got.err == api.OK && got != x.was {
			t.Errorf("%s: behind the crash: %v", x.what, got)
		}
	}
	d := disk.New(1000)
	journal.Save(d, "old")
	last := "old"
	for i := range 200 {
		s := strconv.Itoa(i)
		d.Arm(i % 7)
		e := journal.Save(d, s)
		d.Crash([]int{i % 30, i % 29, i % 3}, i%2 == 0)
		got := load(d)
		if got.err != api.OK || got.text != last && got.text != s || e == api.OK && got.text != s {
			t.Fatalf("%d: Save: %d, Load: %v, where %q was kept", i, e, got, last)
		}
		last = got.text
	}
}

// same: has nothing that is kept changed, now or behind a crash of either kind?
func same(t *testing.T, what string, d *disk.Disk, was kept) {
	t.Helper()
	if got := load(d); got != was {
		t.Errorf("%s: Load: %v, want %v", what, got, was)
	}
	for _, names := range []bool{true, false} {
		d.Crash([]int{9, 9, 9, 9}, names)
		if got := load(d); got != was {
			t.Errorf("%s: Load behind a crash: %v, want %v", what, got, was)
		}
	}
}

// P4.3: each quota, from none to enough.
func TestSaveOnAFullDisk(t *testing.T) {
	for _, x := range starts() {
		was := x.was
		need := x.disk().Used() + len(journal.Frame("new text"))
		if n, e := x.disk().Size(journal.Temp); e == api.OK { // it goes ahead of the rest
			need -= n
		}
		for quota := range need + 2 {
			d := x.disk()
			d.SyncDir()
			d.Quota(quota)
			e := journal.Save(d, "new text")
			if quota >= need {
				if e != api.OK || load(d) != (kept{"new text", api.OK}) {
					t.Errorf("%s, room for %d: Save: %d", x.what, quota, e)
				}
				continue
			}
			if e != api.ErrFull {
				t.Errorf("%s, room for %d: Save: %d", x.what, quota, e)
			}
			same(t, x.what, d, was)
			d.Quota(need)
			if e := journal.Save(d, "new text"); e != api.OK || load(d) != (kept{"new text", api.OK}) {
				t.Errorf("%s, with more room: Save: %d", x.what, e)
			}
		}
	}
}

// P4.3: as many files as may be, and a frame that is too big for a file.
func TestSaveOfTooMuch(t *testing.T) {
	d := disk.New(10 << 20)
	journal.Save(d, "old")
	for i := range 99 {
		d.Append("f"+strconv.Itoa(i), "")
	}
	d.SyncDir()
	if e := journal.Save(d, "new"); e != api.ErrFull {
		t.Errorf("100 files: %d", e)
	}
	same(t, "100 files", d, kept{"old", api.OK})
	d.Remove("f0")
	most := strings.Repeat("x", api.MaxFile-len("scribe 1 1048549 01234567\n"))
	if e := journal.Save(d, most+"x"); e != api.ErrBig {
		t.Errorf("a byte too many: %d", e)
	}
	d.SyncDir()
	same(t, "a byte too many", d, kept{"old", api.OK})
	if e := journal.Save(d, most); e != api.OK || load(d) != (kept{most, api.OK}) {
		t.Errorf("as many bytes as may be: %d", e)
	}
}

// P4.3: what Save does on a full disk that dies.
func TestSaveOnAFullDiskThatDies(t *testing.T) {
	for _, x := range starts() {
		full := func(d *disk.Disk) api.Errno {
			d.Quota(0)
			return journal.Save(d, "new text")
		}
		crashes(x, full, func(d *disk.Disk, e api.Errno, at, way int) {
			if got := load(d); e != api.ErrDead && e != api.ErrFull || got != x.was {
				t.Fatalf("%s, armed with %d, crash %d: Save: %d, Load: %v", x.what, at, way, e, got)
			}
		})
	}
}

// P4.1: the errors of Load.
func TestLoadErrors(t *testing.T) {
	for _, x := range texts() {
		for _, s := range []string{x, journal.Frame(x), journal.Frame(x) + "x", journal.Frame(x)[1:], journal.Frame(x)[:len(journal.Frame(x))-1]} {
			d := disk.New(0)
			d.Put(journal.File, s)
			d.Put(journal.Temp, journal.Frame("another"))
			want, e := journal.Open(s)
			if got := load(d); got != (kept{want, e}) {
				t.Errorf("Load of %.40q: %v, want %d", s, got, e)
			}
		}
	}
}

// P4.1: Drop, of each start, and again; other files stay.
func TestDrop(t *testing.T) {
	for _, x := range starts() {
		d := x.disk()
		if e := journal.Drop(d); e != api.OK || load(d) != (kept{"", api.ErrNone}) {
			t.Errorf("%s: Drop: %d, %v", x.what, e, load(d))
		}
		if e := journal.Drop(d); e != api.OK {
			t.Errorf("%s: Drop again: %d", x.what, e)
		}
		want := ""
		if x.what == "other files" {
			want = "in=1\n2\n;out=3\n;"
		}
		if got := files(d); got != want {
			t.Errorf("%s: %q", x.what, got)
		}
		if d.Crash(nil, false); load(d) != (kept{"", api.ErrNone}) {
			t.Errorf("%s: behind a crash: %v", x.what, load(d))
		}
	}
}

// P4.2: the disk dies at each deed of Drop: behind a crash what was kept is there whole, or nothing is.
func TestDropThatDies(t *testing.T) {
	for _, x := range starts() {
		x.steps = 1
		for _, name := range []string{journal.Temp, journal.File} {
			if _, e := x.disk().Size(name); e == api.OK {
				x.steps++
			}
		}
		crashes(x, journal.Drop, func(d *disk.Disk, e api.Errno, at, way int) {
			got := load(d)
			none := got == kept{"", api.ErrNone}
			if e == api.OK != (at >= x.steps) || e != api.OK && e != api.ErrDead {
				t.Fatalf("%s, armed with %d: Drop: %d", x.what, at, e)
			}
			if got != x.was && !none || e == api.OK && !none {
				t.Fatalf("%s, armed with %d, crash %d: %v", x.what, at, way, got)
			}
		})
	}
}

// P4.1: which deeds Drop does, by what is there at each where it dies.
func TestDropDeedByDeed(t *testing.T) {
	for i, want := range []string{"journal=a;journal.new=b;z=c;", "journal=a;z=c;", "z=c;", "z=c;"} {
		for _, names := range []bool{true, false} {
			d := disk.New(0)
			d.Put(journal.File, "a")
			d.Put(journal.Temp, "b")
			d.Put("z", "c")
			d.Arm(i)
			if e := journal.Drop(d); (e == api.OK) != (i == 3) || i < 3 && e != api.ErrDead {
				t.Errorf("armed with %d: %d", i, e)
			}
			d.Crash(nil, names)
			if !names && i < 3 {
				want = "journal=a;journal.new=b;z=c;"
			}
			if got := files(d); got != want {
				t.Errorf("armed with %d: %q, want %q", i, got, want)
			}
		}
	}
}
