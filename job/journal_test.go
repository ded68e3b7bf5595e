package job_test

import (
	"math/rand"
	"strings"
	"testing"

	"scribe/api"
	"scribe/disk"
	"scribe/journal"
	"scribe/pack"
)

// spoilt: a disk with a job that stands at its second checkpoint, whose journal has other bytes.
func spoilt(t *testing.T, bytes string) (plan, *disk.Disk) {
	t.Helper()
	x, d := tried(t)
	d.Put(journal.File, bytes)
	return x, d
}

// kept: the bytes of that job's journal, and the text that they keep.
func kept(t *testing.T) (string, string) {
	t.Helper()
	_, d := tried(t)
	text, e := journal.Load(d)
	if e != api.OK || journal.Frame(text) != all(d)[journal.File] {
		t.Fatalf("Load: %d", e)
	}
	return journal.Frame(text), text
}

// P19.3, P6: a journal that is cut off at any place, changed at any place, or followed by others, says nothing: the job begins anew, and what was printed stays, and isn't printed to.
func TestSpoiltFrame(t *testing.T) {
	frame, _ := kept(t)
	for i := range frame {
		x, d := spoilt(t, frame[:i])
		x.stands(t, "cut off", d, 0)
		for _, c := range []byte{0, '0', frame[i] + 1, frame[i] ^ 0x80} {
			if c == frame[i] {
				continue
			}
			x, d := spoilt(t, frame[:i]+string([]byte{c})+frame[i+1:])
			x.stands(t, "changed", d, 0)
		}
	}
	for _, behind := range []string{"\x00", "\n", " ", ")", "i0;", frame} {
		x, d := spoilt(t, frame+behind)
		x.stands(t, "followed by others", d, 0)
		x, d = spoilt(t, behind+frame)
		x.stands(t, "behind others", d, 0)
	}
	for _, bytes := range []string{"", "scribe", "scribe 1 ", "scribe 1 0 00000001\n", "mine", many("\xff", 500)} {
		x, d := spoilt(t, bytes)
		x.stands(t, "other bytes", d, 0)
	}
	x, d := tried(t)
	journal.Drop(d)
	x.stands(t, "no journal", d, 0)
	x, d = tried(t)
	d.Rename(journal.File, journal.Temp)
	x.stands(t, "the journal under the other name", d, 0)
}

// P19.3, P6: texts that are no checkpoint, though their frame is right.
func TestFramedText(t *testing.T) {
	_, text := kept(t)
	foreign := []string{"", "(", ")", "()", "i0;", "0:", "(0:()()0:)", "(0:()()0:", "0:()()0:)", "((((", many("(", 100), text + ")", text + "0:", text + text, "(" + text + ")", text[1:], "x" + text}
	for i := range text {
		foreign = append(foreign, text[:i])
	}
	for _, s := range foreign {
		x, d := spoilt(t, journal.Frame(s))
		x.stands(t, "no checkpoint", d, 0)
	}
}

// lists: a checkpoint's parts: the job, the files that were there, those that were made, the machine's state; each as it is written.
func lists(t *testing.T, text string) []string {
	t.Helper()
	var l []string
	for _, thing := range pack.Things(text[1 : len(text)-1]) {
		l = append(l, thing)
	}
	if len(l) != 4 {
		t.Fatalf("%q: %d parts", text, len(l))
	}
	return l
}

// P19.3, P6: checkpoints in which one part is another: files in another order, twice, in both lists, with other lengths, such as no job makes; another job's text; a state that isn't one.
func TestChangedParts(t *testing.T) {
	_, text := kept(t)
	l := lists(t, text)
	if l[1] != "(2:in3:in24:keep4:none4:twin)" || l[2] != "(1:ei0;2:o0i2;2:o1i4;6:stdouti12;)" {
		t.Fatalf("%q", l)
	}
	for i, others := range [][]string{
		{"0:", "1:x", l[0] + "0:", "", "()"},
		{"()", "(2:in)", "(3:in24:keep4:none4:twin)", "(3:in22:in4:keep4:none4:twin)", "(2:in2:in3:in24:keep4:none4:twin)", "(2:in3:in27:journal4:keep4:none4:twin)", "(2:in3:in211:journal.new4:keep4:none4:twin)", "(2:in3:in24:keep4:none6:stdout4:twin)", "(0:2:in3:in24:keep4:none4:twin)", "(1:A2:in3:in24:keep4:none4:twin)", "(2:in3:in24:keep4:none4:nono4:twin)", "(2:in3:in24:keepi0;)", "0:", "(" + l[1] + ")"},
		{"(1:ei0;2:o0i2;2:o1i4;6:stdouti16385;)", "(1:ei-1;2:o0i2;2:o1i4;6:stdouti12;)", "(1:ei1;2:o0i2;2:o1i4;6:stdouti12;)", "(1:ei0;2:o1i4;2:o0i2;6:stdouti12;)", "(1:ei0;1:ei0;2:o0i2;2:o1i4;6:stdouti12;)", "(1:ei0;2:ini4;2:o0i2;2:o1i4;6:stdouti12;)", "(1:ei0;4:keepi4;2:o0i2;2:o1i4;6:stdouti12;)", "(1:ei0;7:journali4;2:o0i2;2:o1i4;6:stdouti12;)", "(1:ei0;1:gi0;2:o0i2;2:o1i4;6:stdouti12;)", "(1:ei0;2:o0i2;2:o1i4;6:stdouti9223372036854775807;)", "(1:ei0;2:o0i2;2:o1i4;6:stdouti-9223372036854775808;)", "(1:e2:o0i2;)", "(i0;i0;)", "0:", ""},
		{"0:", "5:(i0;)", "()", "i0;", ""},
	} {
		for _, other := range others {
			parts := lists(t, text)
			parts[i] = other
			x, d := spoilt(t, journal.Frame("("+strings.Join(parts, "")+")"))
			x.stands(t, "part "+other, d, 0)
		}
	}
	x, d := spoilt(t, journal.Frame("("+strings.Join(l, "")+")"))
	x.stands(t, "all parts as they were", d, 40)
}

// changed: bytes with a few of them changed, taken out or put in.
func changed(r *rand.Rand, text string) string {
	for range 1 + r.Intn(3) {
		at := r.Intn(len(text))
		switch r.Intn(5) {
		case 0, 1:
			text = text[:at] + "0123456789i;:()-"[r.Intn(16):][:1] + text[at+1:]
		case 2:
			text = text[:at] + string([]byte{text[at] ^ byte(1<<r.Intn(8))}) + text[at+1:]
		case 3:
			text = text[:at] + "1" + text[min(at+1+r.Intn(3), len(text)):]
		case 4:
			text = text[:at] + text[at/2:]
		}
	}
	return text
}

// P6: whatever text stands in a right frame: the job begins anew or goes on, and nothing panics.
func TestAnyText(t *testing.T) {
	r := rand.New(rand.NewSource(30))
	_, text := kept(t)
	on := 0
	for range 4000 {
		parts := lists(t, text)
		if r.Intn(2) == 0 {
			var w pack.Writer
			w.Text(changed(r, pack.Read(parts[3]).Text(enough)))
			parts[3] = w.Bytes()
		} else {
			part := r.Intn(4)
			parts[part] = changed(r, parts[part])
		}
		x, d := spoilt(t, journal.Frame("("+strings.Join(parts, "")+")"))
		j := start(t, d, x.spec(20))
		if j.Steps() != 0 {
			on++
		}
		for range 5 {
			if e := j.Run(100); e != api.OK {
				t.Fatalf("%q: Run: %d", parts, e)
			}
			j.Code()
			j.Made()
		}
		d.Crash(nil, r.Intn(2) == 0)
		start(t, d, x.spec(3)).Run(100)
	}
	if on < 100 {
		t.Errorf("%d went on", on)
	}
}
