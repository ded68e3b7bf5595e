package disk_test

import (
	"iter"
	"math"
	"strconv"
	"strings"
	"testing"
	"unsafe"

	"scribe/api"
	"scribe/disk"
)

// store is what can be asked of a disk, and of the model of one.
type store interface {
	Append(name, t string) api.Errno
	Truncate(name string, n int) api.Errno
	Sync(name string) api.Errno
	SyncDir() api.Errno
	Rename(from, to string) api.Errno
	Remove(name string) api.Errno
	Read(name string, at, n int) (string, api.Errno)
	Size(name string) (int, api.Errno)
	All() iter.Seq2[string, string]
	Used() int
	Quota(n int)
	Put(name, t string) api.Errno
	Arm(n int)
	Dead() bool
	Crash(keeps []int, names bool)
}

// files: all of a disk's, as one text.
func files(d store) string {
	return told(d.All())
}

func told(all iter.Seq2[string, string]) string {
	var s strings.Builder
	for name, t := range all {
		s.WriteString(name + "=" + t + ";")
	}
	return s.String()
}

func must(t *testing.T, what string, got, want api.Errno) {
	t.Helper()
	if got != want {
		t.Errorf("%s: %d, want %d", what, got, want)
	}
}

func mustFiles(t *testing.T, what string, d store, want string) {
	t.Helper()
	if got := files(d); got != want {
		t.Errorf("%s: %q, want %q", what, got, want)
	}
}

// roomy is a disk with room for each thing that a test puts there.
func roomy() *disk.Disk {
	return disk.New(math.MaxInt)
}

// numbers are those of a rule, so that each run has the same ones.
type numbers uint64

func (n *numbers) next(below int) int {
	*n = *n*6364136223846793005 + 1442695040888963407
	return int(uint64(*n)>>33) % below
}

// P3.1: the bytes of a name, one by one, and how many there may be.
func TestName(t *testing.T) {
	const good = "abcdefghijklmnopqrstuvwxyz0123456789._-"
	for c := range 256 {
		s := string([]byte{byte(c)})
		want := strings.Contains(good, s)
		for _, name := range []string{s, "a" + s, s + "a", "a" + s + "a", strings.Repeat("a", 39) + s} {
			if got := disk.Name(name); got != want {
				t.Errorf("Name(%q): %v", name, got)
			}
			if got := roomy().Append(name, ""); (got == api.OK) != want || !want && got != api.ErrArg {
				t.Errorf("Append to %q: %d", name, got)
			}
			if got := roomy().Put(name, ""); (got == api.OK) != want || !want && got != api.ErrArg {
				t.Errorf("Put of %q: %d", name, got)
			}
			d := roomy()
			d.Append("from", "")
			if got := d.Rename("from", name); (got == api.OK) != want || !want && got != api.ErrArg {
				t.Errorf("Rename to %q: %d", name, got)
			}
		}
	}
	for n := range 50 {
		if got := disk.Name(strings.Repeat("a", n)); got != (n >= 1 && n <= 40) {
			t.Errorf("Name of %d bytes: %v", n, got)
		}
	}
	for _, s := range []string{"ä", "a b", "a/b", "a\x00", "A", ".", "..", "-"} {
		if got := disk.Name(s); got != (s == "." || s == ".." || s == "-") {
			t.Errorf("Name(%q): %v", s, got)
		}
	}
}

// P3.1: a disk as it is made.
func TestNew(t *testing.T) {
	d := disk.New(3)
	if files(d) != "" || d.Used() != 0 || d.Dead() {
		t.Error("it isn't empty, or dead")
	}
	for range 1000 {
		must(t, "SyncDir", d.SyncDir(), api.OK)
	}
	if d.Crash(nil, false); files(d) != "" {
		t.Error("something comes")
	}
}

// P3.1: a quota that is just met, one more, 0 and below 0, from New and from Quota.
func TestQuota(t *testing.T) {
	for _, quota := range []int{-5, -1, 0, 1, 5, math.MinInt} {
		other := disk.New(100)
		other.Quota(quota)
		for _, d := range []*disk.Disk{disk.New(quota), other} {
			room := max(quota, 0)
			must(t, "one too many", d.Append("a", strings.Repeat("x", room+1)), api.ErrFull)
			mustFiles(t, "full", d, "")
			must(t, "just met", d.Append("a", strings.Repeat("x", room)), api.OK)
			must(t, "nothing more", d.Append("a", ""), api.OK)
			must(t, "one more", d.Append("a", "x"), api.ErrFull)
			must(t, "one more elsewhere", d.Append("b", "x"), api.ErrFull)
			must(t, "nothing elsewhere", d.Append("b", ""), api.OK)
			mustFiles(t, "full", d, "a="+strings.Repeat("x", room)+";b=;")
		}
	}
	d := disk.New(3)
	d.Append("a", "123")
	d.Truncate("a", 1)
	must(t, "room behind Truncate", d.Append("b", "45"), api.OK)
	d.Remove("b")
	must(t, "room behind Remove", d.Append("a", "23"), api.OK)
	d.Append("b", "")
	d.Rename("b", "a")
	must(t, "room behind Rename", d.Append("b", "123"), api.OK)
	d.Quota(1)
	must(t, "less room than is used", d.Append("b", ""), api.ErrFull)
	must(t, "no room is asked", d.Sync("b"), api.OK)
	d.Quota(4)
	must(t, "more room", d.Append("b", "4"), api.OK)
	must(t, "Put asks no quota", d.Put("c", "12345"), api.OK)
	if d.Used() != 9 {
		t.Errorf("Used: %d", d.Used())
	}
	must(t, "behind Put", d.Append("b", ""), api.ErrFull)
}

// P3.1: 100 files and one more; Put makes as many as it is asked for.
func TestFilesAtMost(t *testing.T) {
	d := disk.New(10)
	for i := range 100 {
		must(t, "one of 100", d.Append("f"+strconv.Itoa(i), ""), api.OK)
	}
	must(t, "the 101st", d.Append("g", ""), api.ErrFull)
	must(t, "no name, and full", d.Append("G", ""), api.ErrArg)
	must(t, "one that is there", d.Append("f7", "x"), api.OK)
	must(t, "another name", d.Rename("f7", "g"), api.OK)
	must(t, "the old name", d.Append("f7", ""), api.ErrFull)
	d.Remove("g")
	must(t, "room for one", d.Append("f7", ""), api.OK)
	must(t, "Put", d.Put("g", ""), api.OK)
	must(t, "behind Put", d.Append("h", ""), api.ErrFull)
	must(t, "Put", d.Put("h", ""), api.OK)
	d.Remove("g")
	must(t, "100 of 101", d.Append("g", ""), api.ErrFull)
}

// P3.1: a file of 2^20 bytes and one more, by Append and by Put; the quota is asked first.
func TestFileAtMost(t *testing.T) {
	most := strings.Repeat("x", api.MaxFile)
	d := roomy()
	must(t, "one too many at once", d.Append("a", most+"x"), api.ErrBig)
	mustFiles(t, "none is made", d, "")
	must(t, "just as many", d.Append("a", most), api.OK)
	must(t, "none more", d.Append("a", ""), api.OK)
	must(t, "one more", d.Append("a", "x"), api.ErrBig)
	must(t, "another file", d.Append("b", most[1:]), api.OK)
	must(t, "the last one", d.Append("b", "x"), api.OK)
	must(t, "one more", d.Append("b", "x"), api.ErrBig)
	d.Quota(2 << 20)
	must(t, "both", d.Append("b", "x"), api.ErrFull)
	must(t, "Put of too many", d.Put("c", most+"x"), api.ErrArg)
	must(t, "Put of as many", d.Put("c", most), api.OK)
	if n, e := d.Size("c"); n != api.MaxFile || e != api.OK {
		t.Errorf("Size: %d, %d", n, e)
	}
	if s, e := d.Read("c", 1, math.MaxInt); s != most[1:] || e != api.OK {
		t.Errorf("Read: %d bytes, %d", len(s), e)
	}
}

// P3.1: at and n below 0, within the file and beyond its end.
func TestRead(t *testing.T) {
	d := roomy()
	d.Append("a", "012")
	d.Append("a", "3\n")
	d.Append("e", "")
	const all = "0123\n"
	for _, at := range []int{math.MinInt, -1, 0, 1, 4, 5, 6, 100, math.MaxInt} {
		for _, n := range []int{math.MinInt, -1, 0, 1, 3, 4, 5, 6, 100, math.MaxInt} {
			want, e := "", api.OK
			for i := range len(all) {
				if i >= at && i-at < n {
					want += all[i : i+1]
				}
			}
			if at < 0 || n < 0 {
				want, e = "", api.ErrArg
			}
			if got, f := d.Read("a", at, n); got != want || f != e {
				t.Errorf("Read from %d, %d bytes: %q, %d, want %q, %d", at, n, got, f, want, e)
			}
			if got, f := d.Read("b", at, n); got != "" || f != api.ErrNone {
				t.Errorf("Read of no file: %q, %d", got, f)
			}
			if got, f := d.Read("e", at, n); got != "" || f != e {
				t.Errorf("Read of an empty file: %q, %d", got, f)
			}
		}
	}
	for name, want := range map[string]int{"a": 5, "e": 0} {
		if n, e := d.Size(name); n != want || e != api.OK {
			t.Errorf("Size of %s: %d, %d", name, n, e)
		}
	}
	for _, name := range []string{"b", "", "A", strings.Repeat("a", 41)} {
		if n, e := d.Size(name); n != 0 || e != api.ErrNone {
			t.Errorf("Size of %q: %d, %d", name, n, e)
		}
	}
}

// P3.1: each deed's errors, in their order, and that nothing comes of them.
func TestErrorsOfDeeds(t *testing.T) {
	d := disk.New(3)
	d.Append("a", "12")
	for _, x := range []struct {
		what string
		got  api.Errno
		want api.Errno
	}{
		{"Append to no name, too much", d.Append("A", "xxxx"), api.ErrArg},
		{"Append to a name of 0 bytes", d.Append("", ""), api.ErrArg},
		{"Append of too much", d.Append("a", "xx"), api.ErrFull},
		{"Truncate of no file, below 0", d.Truncate("b", -1), api.ErrNone},
		{"Truncate of no name", d.Truncate("A", 0), api.ErrNone},
		{"Truncate below 0", d.Truncate("a", -1), api.ErrArg},
		{"Truncate far below 0", d.Truncate("a", math.MinInt), api.ErrArg},
		{"Truncate to more", d.Truncate("a", 3), api.ErrArg},
		{"Truncate to much more", d.Truncate("a", math.MaxInt), api.ErrArg},
		{"Sync of no file", d.Sync("b"), api.ErrNone},
		{"Sync of no name", d.Sync("A"), api.ErrNone},
		{"Rename of no file to no name", d.Rename("b", "B"), api.ErrNone},
		{"Rename of no file", d.Rename("b", "a"), api.ErrNone},
		{"Rename of no name", d.Rename("", "a"), api.ErrNone},
		{"Rename to no name", d.Rename("a", ""), api.ErrArg},
		{"Remove of no file", d.Remove("b"), api.ErrNone},
		{"Remove of no name", d.Remove("A"), api.ErrNone},
		{"Put of no name", d.Put("A", "x"), api.ErrArg},
	} {
		must(t, x.what, x.got, x.want)
	}
	mustFiles(t, "behind errors", d, "a=12;")
	d.Crash(nil, false)
	mustFiles(t, "nothing was safe", d, "")
}

// P3.1: the deeds as they are done.
func TestDeeds(t *testing.T) {
	d := roomy()
	d.Append("b", "12")
	d.Append("a", "")
	d.Append("b", "3")
	mustFiles(t, "Append", d, "a=;b=123;")
	must(t, "Truncate to all", d.Truncate("b", 3), api.OK)
	mustFiles(t, "Truncate to all", d, "a=;b=123;")
	must(t, "Truncate to 1", d.Truncate("b", 1), api.OK)
	mustFiles(t, "Truncate to 1", d, "a=;b=1;")
	d.Append("b", "xyz")
	mustFiles(t, "Append behind Truncate", d, "a=;b=1xyz;")
	must(t, "Truncate to 0", d.Truncate("b", 0), api.OK)
	mustFiles(t, "Truncate to 0", d, "a=;b=;")
	d.Append("b", "B")
	must(t, "Rename onto its own name", d.Rename("b", "b"), api.OK)
	mustFiles(t, "Rename onto its own name", d, "a=;b=B;")
	must(t, "Rename", d.Rename("b", "c"), api.OK)
	mustFiles(t, "Rename", d, "a=;c=B;")
	must(t, "Rename onto a file", d.Rename("c", "a"), api.OK)
	mustFiles(t, "Rename onto a file", d, "a=B;")
	must(t, "Remove", d.Remove("a"), api.OK)
	mustFiles(t, "Remove", d, "")
	must(t, "Remove again", d.Remove("a"), api.ErrNone)
	d.Append("a", "new")
	mustFiles(t, "made anew", d, "a=new;")
}

// P3.1: All by rising names, left at each place, and gone through again.
func TestAll(t *testing.T) {
	d := roomy()
	for _, name := range []string{"b", "-", "10", "a.", "9", "a", "_", "z", "."} {
		d.Append(name, "<"+name+">")
	}
	const want = "-=<->;.=<.>;10=<10>;9=<9>;_=<_>;a=<a>;a.=<a.>;b=<b>;z=<z>;"
	mustFiles(t, "All", d, want)
	it := d.All()
	for leave := range 10 {
		n := 0
		for range it {
			if n++; n > leave {
				break
			}
		}
		if n != min(leave+1, 9) {
			t.Errorf("left at %d: %d files", leave, n)
		}
		s := ""
		for name, b := range it {
			for range it { // one within the other
				break
			}
			s += name + "=" + b + ";"
		}
		if s != want {
			t.Errorf("again: %q", s)
		}
	}
	for range disk.New(0).All() {
		t.Error("a file of an empty disk")
	}
}

// P3.1, K3: what All has answered stays as it was, whatever becomes of the disk.
func TestAllIsOfTheCall(t *testing.T) {
	d := roomy()
	d.Append("a", "123")
	d.Append("b", "45")
	it := d.All()
	d.Truncate("a", 1)
	d.Append("a", "xyz")
	d.Append("b", "6")
	d.Rename("b", "c")
	d.Append("d", "new")
	if s := told(it); s != "a=123;b=45;" {
		t.Errorf("All: %q", s)
	}
}

// shares: do two texts lie in the same memory?
func shares(s, t string) bool {
	return unsafe.StringData(s) == unsafe.StringData(t)
}

// K3: no memory in common, of arguments and answers.
func TestMemory(t *testing.T) {
	d := roomy()
	name, other, text := strings.Clone("name"), strings.Clone("other"), strings.Clone("text")
	d.Append(name, text)
	for range 2 {
		a, _ := d.Read(name, 0, 9)
		b, _ := d.Read(name, 0, 9)
		if shares(a, b) || shares(a, text) {
			t.Error("Read")
		}
		var seen []string
		for range 2 {
			for n, b := range d.All() {
				seen = append(seen, n, b)
			}
		}
		for i, s := range seen {
			for _, z := range append([]string{name, other, text}, seen[:i]...) {
				if shares(s, z) {
					t.Errorf("All: %q", s)
				}
			}
		}
		d.Put(other, text)
	}
	keeps := []int{7, -1, 3}
	d.Crash(keeps[:1], true)
	if keeps[0] != 7 || keeps[1] != -1 || keeps[2] != 3 {
		t.Error("Crash changes what it is handed")
	}
}
