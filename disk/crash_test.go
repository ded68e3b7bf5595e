package disk_test

import (
	"math"
	"strings"
	"testing"

	"scribe/api"
	"scribe/disk"
)

// P3.2: the chapter's examples.
func TestExamples(t *testing.T) {
	for _, x := range []struct {
		dir   bool
		keeps []int
		want  string
	}{
		{true, []int{1}, "a=xyz;"},
		{true, nil, "a=xy;"},
		{false, []int{1}, ""},
		{false, nil, ""},
	} {
		d := roomy()
		d.Append("a", "xy")
		d.Sync("a")
		d.Append("a", "z")
		if x.dir {
			d.SyncDir()
		}
		d.Crash(x.keeps, false)
		mustFiles(t, "crash", d, x.want)
	}
}

// P3.1: Arm at each number of deeds; what has an error is none, nor is Put or a question.
func TestArm(t *testing.T) {
	for n := range 12 {
		d := disk.New(100)
		d.Put("a", "1")
		d.Arm(n)
		for i := range 20 {
			d.Append("A", "")
			d.Truncate("a", -1)
			d.Sync("none")
			d.Rename("a", "A")
			d.Remove("none")
			d.Read("a", 0, 1)
			d.Size("a")
			d.Used()
			d.Quota(100)
			d.Put("b", "2")
			files(d)
			if d.Dead() != (i > n) {
				t.Fatalf("armed with %d, behind %d deeds: Dead: %v", n, i, d.Dead())
			}
			e := d.Sync("a")
			if (e == api.OK) != (i < n) || i >= n && e != api.ErrDead {
				t.Fatalf("armed with %d, deed %d: %d", n, i, e)
			}
		}
	}
}

// P3.1: each deed counts, and is what the disk dies at; it isn't done then.
func TestEachDeedCounts(t *testing.T) {
	for _, x := range []struct {
		what      string
		do        func(d *disk.Disk) api.Errno
		now, safe string // what a crash leaves of a disk that died at it
	}{
		{"Append", func(d *disk.Disk) api.Errno { return d.Append("a", "34") }, "a=1234;b=56;", "a=1234;"},
		{"Append of nothing", func(d *disk.Disk) api.Errno { return d.Append("a", "") }, "a=12;b=56;", "a=12;"},
		{"Append to a new one", func(d *disk.Disk) api.Errno { return d.Append("c", "7") }, "a=12;b=56;c=7;", "a=12;"},
		{"Append of nothing to a new one", func(d *disk.Disk) api.Errno { return d.Append("c", "") }, "a=12;b=56;c=;", "a=12;"},
		{"Truncate", func(d *disk.Disk) api.Errno { return d.Truncate("a", 1) }, "a=12;b=56;", "a=12;"},
		{"Sync", func(d *disk.Disk) api.Errno { return d.Sync("b") }, "a=12;b=56;", "a=12;"},
		{"SyncDir", func(d *disk.Disk) api.Errno { return d.SyncDir() }, "a=12;b=56;", "a=12;"},
		{"Rename", func(d *disk.Disk) api.Errno { return d.Rename("a", "c") }, "a=12;b=56;", "a=12;"},
		{"Rename onto one", func(d *disk.Disk) api.Errno { return d.Rename("a", "b") }, "a=12;b=56;", "a=12;"},
		{"Rename onto itself", func(d *disk.Disk) api.Errno { return d.Rename("a", "a") }, "a=12;b=56;", "a=12;"},
		{"Remove", func(d *disk.Disk) api.Errno { return d.Remove("a") }, "a=12;b=56;", "a=12;"},
	} {
		for _, names := range []bool{false, true} {
			d := roomy()
			d.Put("a", "12")
			d.Append("b", "56")
			d.Arm(0)
			must(t, x.what, x.do(d), api.ErrDead)
			if !d.Dead() {
				t.Errorf("%s: it isn't dead", x.what)
			}
			d.Crash([]int{9, 9, 9}, names)
			want := x.safe
			if names {
				want = x.now
			}
			mustFiles(t, x.what, d, want)
		}
		d := roomy()
		d.Put("a", "12")
		d.Append("b", "56")
		d.Arm(1)
		must(t, x.what, x.do(d), api.OK)
		must(t, x.what+", the next one", d.SyncDir(), api.ErrDead)
	}
}

// P3.1: what a deed died at that isn't done leaves safe what was.
func TestSyncThatDies(t *testing.T) {
	d := roomy()
	d.Append("a", "12")
	d.SyncDir()
	d.Arm(0)
	d.Sync("a")
	d.Crash(nil, false)
	mustFiles(t, "the bytes aren't safe", d, "a=;")
	d.Append("b", "34")
	d.Sync("b")
	d.Arm(0)
	d.SyncDir()
	d.Crash(nil, false)
	mustFiles(t, "the name isn't safe", d, "a=;")
}

// P3.1: Arm again, below 0, and of a dead disk; Crash disarms.
func TestArmAgain(t *testing.T) {
	for _, n := range []int{-1, -2, math.MinInt} {
		d := roomy()
		d.Arm(0)
		d.Arm(n)
		for range 10 {
			must(t, "not armed any more", d.SyncDir(), api.OK)
		}
	}
	d := roomy()
	d.Arm(0)
	d.Arm(2)
	must(t, "1st", d.SyncDir(), api.OK)
	d.Arm(1)
	must(t, "2nd", d.SyncDir(), api.OK)
	must(t, "3rd", d.SyncDir(), api.ErrDead)
	for _, n := range []int{-1, 0, 5} {
		d.Arm(n)
		must(t, "dead", d.SyncDir(), api.ErrDead)
	}
	d.Crash(nil, true)
	for range 10 {
		must(t, "behind a crash", d.SyncDir(), api.OK)
	}
	d.Arm(3)
	d.Crash(nil, true)
	for range 10 {
		must(t, "behind a crash of an armed one", d.SyncDir(), api.OK)
	}
	d.Arm(math.MaxInt)
	must(t, "armed with many", d.SyncDir(), api.OK)
}

// P3.1: a dead disk, asked each call: ErrDead ahead of every other error.
func TestDeadDisk(t *testing.T) {
	d := disk.New(5)
	d.Put("a", "12")
	d.Arm(0)
	must(t, "what it died at", d.Append("a", "34"), api.ErrDead)
	for _, name := range []string{"a", "b", "A", ""} {
		must(t, "Append", d.Append(name, "5"), api.ErrDead)
		must(t, "Append of too much", d.Append(name, "567890"), api.ErrDead)
		must(t, "Truncate", d.Truncate(name, 1), api.ErrDead)
		must(t, "Truncate below 0", d.Truncate(name, -1), api.ErrDead)
		must(t, "Sync", d.Sync(name), api.ErrDead)
		must(t, "Rename", d.Rename(name, "c"), api.ErrDead)
		must(t, "Rename to no name", d.Rename(name, "C"), api.ErrDead)
		must(t, "Remove", d.Remove(name), api.ErrDead)
		if s, e := d.Read(name, 0, 1); s != "" || e != api.ErrDead {
			t.Errorf("Read: %q, %d", s, e)
		}
		if s, e := d.Read(name, -1, 1); s != "" || e != api.ErrDead {
			t.Errorf("Read: %q, %d", s, e)
		}
		if n, e := d.Size(name); n != 0 || e != api.ErrDead {
			t.Errorf("Size: %d, %d", n, e)
		}
	}
	must(t, "SyncDir", d.SyncDir(), api.ErrDead)
	mustFiles(t, "All", d, "")
	if !d.Dead() || d.Used() != 4 || !disk.Name("a") {
		t.Errorf("Used: %d", d.Used())
	}
	d.Quota(6)
	must(t, "Put is no deed", d.Put("b", "x"), api.OK)
	must(t, "Put of no name", d.Put("B", "x"), api.ErrArg)
	if !d.Dead() || d.Used() != 5 {
		t.Errorf("Used: %d", d.Used())
	}
	d.Crash([]int{1}, false)
	mustFiles(t, "behind the crash", d, "a=123;b=x;")
	must(t, "the new quota", d.Append("a", "45"), api.OK)
	must(t, "the new quota", d.Append("a", "6"), api.ErrFull)
}

// P3.2: an Append that the disk died at, of a file that is there and of one that isn't: any beginning of it is kept.
func TestAppendThatDies(t *testing.T) {
	for _, keep := range []int{math.MinInt, -1, 0, 1, 2, 3, 4, math.MaxInt} {
		kept := "xyz"[:min(max(keep, 0), 3)]
		for _, names := range []bool{false, true} {
			d := roomy()
			d.Put("a", "12")
			d.Arm(0)
			d.Append("a", "xyz")
			d.Crash([]int{keep}, names)
			mustFiles(t, "there", d, "a=12"+kept+";")
			d = roomy()
			d.Arm(0)
			d.Append("b", "xyz")
			if d.Used() != 3 {
				t.Errorf("Used: %d", d.Used())
			}
			d.Crash([]int{keep}, names)
			want := ""
			if names {
				want = "b=" + kept + ";"
			}
			mustFiles(t, "not there", d, want)
		}
	}
}

// P3.2: keeps with no number, one below 0 and one too large, file by file of the names that are left.
func TestKeeps(t *testing.T) {
	made := func() *disk.Disk {
		d := roomy()
		d.Append("b", "B")
		d.Append("d", "D")
		d.Sync("b")
		d.Sync("d")
		d.SyncDir()
		d.Append("b", "12")
		d.Append("d", "34")
		d.Rename("d", "c")
		d.Append("a", "56")
		return d
	}
	for _, x := range []struct {
		keeps     []int
		safe, now string
	}{
		{nil, "b=B;d=D;", "a=;b=B;c=D;"},
		{[]int{}, "b=B;d=D;", "a=;b=B;c=D;"},
		{[]int{1}, "b=B1;d=D;", "a=5;b=B;c=D;"},
		{[]int{1, 2}, "b=B1;d=D34;", "a=5;b=B12;c=D;"},
		{[]int{-1, 1, 2}, "b=B;d=D3;", "a=;b=B1;c=D34;"},
		{[]int{math.MinInt, math.MaxInt, -3}, "b=B;d=D34;", "a=;b=B12;c=D;"},
		{[]int{3, 3, 3, 3, 3}, "b=B12;d=D34;", "a=56;b=B12;c=D34;"},
	} {
		d := made()
		d.Crash(x.keeps, false)
		mustFiles(t, "the safe names", d, x.safe)
		d.Crash(nil, false)
		mustFiles(t, "all of it is safe", d, x.safe)
		d = made()
		d.Crash(x.keeps, true)
		mustFiles(t, "the names of now", d, x.now)
		d.Crash(nil, false)
		mustFiles(t, "all of it is safe", d, x.now)
	}
}

// P3.2: bytes of now that don't begin with those that are safe: none of them comes.
func TestCrashBehindTruncate(t *testing.T) {
	for _, x := range []struct {
		cut         int
		more, crash string
	}{
		{4, "", "a=123456;"},
		{6, "", "a=123456;"},
		{3, "", "a=123;"},
		{3, "x", "a=123x;"},
		{2, "", "a=123;"},
		{2, "x", "a=123;"},
		{2, "3x", "a=123x;"}, // they begin with the safe ones again
		{0, "xyzabc", "a=123;"},
		{0, "1234", "a=1234;"},
	} {
		for _, names := range []bool{false, true} {
			d := roomy()
			d.Append("a", "123")
			d.Sync("a")
			d.SyncDir()
			d.Append("a", "456")
			if x.cut != 4 {
				d.Truncate("a", x.cut)
			}
			d.Append("a", x.more)
			d.Crash([]int{9}, names)
			mustFiles(t, "cut", d, x.crash)
		}
	}
}

// P3.2: files under other names, without a name, and in the place of another one.
func TestCrashOfNames(t *testing.T) {
	made := func(do func(d *disk.Disk)) *disk.Disk {
		d := roomy()
		d.Put("a", "1")
		d.Put("b", "2")
		do(d)
		return d
	}
	for i, x := range []struct {
		do        func(d *disk.Disk)
		safe, now string
	}{
		{func(d *disk.Disk) { d.Remove("a") }, "a=1;b=2;", "b=2;"},
		{func(d *disk.Disk) { d.Remove("a"); d.SyncDir() }, "b=2;", "b=2;"},
		{func(d *disk.Disk) { d.Append("a", "x"); d.Remove("a") }, "a=1x;b=2;", "b=2;"},
		{func(d *disk.Disk) { d.Remove("a"); d.Append("a", "x") }, "a=1;b=2;", "a=x;b=2;"},
		{func(d *disk.Disk) { d.Remove("a"); d.Append("a", "x"); d.SyncDir() }, "a=x;b=2;", "a=x;b=2;"},
		{func(d *disk.Disk) { d.Rename("a", "b") }, "a=1;b=2;", "b=1;"},
		{func(d *disk.Disk) { d.Rename("a", "b"); d.Append("b", "x") }, "a=1x;b=2;", "b=1x;"},
		{func(d *disk.Disk) { d.Rename("a", "b"); d.Append("b", "x"); d.Sync("b") }, "a=1x;b=2;", "b=1x;"},
		{func(d *disk.Disk) { d.Rename("a", "b"); d.Append("a", "x"); d.Sync("a") }, "a=1;b=2;", "a=x;b=1;"},
		{func(d *disk.Disk) { d.Rename("a", "b"); d.SyncDir() }, "b=1;", "b=1;"},
		{func(d *disk.Disk) { d.Rename("a", "c"); d.Rename("b", "a"); d.Rename("c", "b") }, "a=1;b=2;", "a=2;b=1;"},
		{func(d *disk.Disk) { d.Append("a", "x"); d.Put("a", "3") }, "a=3;b=2;", "a=3;b=2;"},
		{func(d *disk.Disk) { d.Put("c", "3") }, "a=1;b=2;c=3;", "a=1;b=2;c=3;"},
		{func(d *disk.Disk) { d.Remove("a"); d.Put("a", "3") }, "a=3;b=2;", "a=3;b=2;"},
		{func(d *disk.Disk) { d.Rename("a", "c"); d.Put("c", "3") }, "a=1;b=2;c=3;", "b=2;c=3;"},
		{func(d *disk.Disk) { d.Put("c", ""); d.Append("c", "xy"); d.Remove("c") }, "a=1;b=2;c=xy;", "a=1;b=2;"},
	} {
		d := made(x.do)
		d.Crash([]int{9, 9, 9}, false)
		mustFiles(t, "the safe names of "+string(rune('a'+i)), d, x.safe)
		d = made(x.do)
		d.Crash([]int{9, 9, 9}, true)
		mustFiles(t, "the names of now of "+string(rune('a'+i)), d, x.now)
	}
}

// P3.2: whatever is done, a crash leaves each safe file with its safe bytes in front, and no byte that wasn't written there.
func TestWhatIsSafeStays(t *testing.T) {
	const letters = "abcdefghijklmnopqrstuvwxyz"
	for seed := range numbers(400) {
		n := seed
		d := roomy()
		all, safe := "", "" // of the file log, which is only ever appended to
		d.Append("log", "")
		d.SyncDir()
		for range 60 {
			switch n.next(6) {
			case 0, 1:
				at := n.next(20)
				t := letters[at : at+n.next(6)]
				d.Append("log", t)
				all += t
			case 2:
				d.Sync("log")
				safe = all
			case 3:
				other := string(letters[n.next(3)])
				d.Append(other, "other")
				d.Rename(other, letters[n.next(3):][:1])
				d.Remove(string(letters[n.next(3)]))
			case 4:
				d.Arm(n.next(3))
				d.Append("log", "died") // if it dies here, it stands there all the same
				all += "died"
				if d.Sync("log") == api.OK {
					safe = all
				}
				d.Arm(-1)
				if d.Dead() {
					d.Crash([]int{n.next(9), n.next(9), n.next(9), n.next(9)}, n.next(2) == 0)
				}
			case 5:
				d.Crash([]int{n.next(9), n.next(9), n.next(9), n.next(9)}, n.next(2) == 0)
			}
			if d.Dead() {
				t.Fatal("dead")
			}
			now, e := d.Read("log", 0, math.MaxInt)
			if e != api.OK || !strings.HasPrefix(now, safe) || !strings.HasPrefix(all, now) {
				t.Fatalf("%q, %d, where %q is safe and %q was written", now, e, safe, all)
			}
			if now != all { // a crash cut it; what it left is safe
				all, safe = now, now
			}
		}
	}
}
