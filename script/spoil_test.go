package script_test

import (
	"slices"
	"strings"
	"testing"

	"scribe/api"
	"scribe/disk"
	"scribe/job"
	"scribe/journal"
	"scribe/script"
)

// P20.3: Spoil with any text, on a disk that lives, is full or dead; no job runs, whatever comes of it.
func TestSpoil(t *testing.T) {
	x, n := mean(t)
	longest := strings.Repeat("a", api.MaxFile)
	for _, ahead := range []string{"", "start\nrun 7", "quota 0", "start\nrun 6\nquota 0", "arm 0\nstart", "start\narm 2\nrun 1000"} {
		for _, text := range []string{"", "a", "\n\x00\xff", "journal", "scribe 1 ", "scribe 1 0 00000001\n", journal.Frame(""), journal.Frame("()"), longest} {
			w := x.world(t, 5)
			play(t, w, ahead)
			if r := w.Do(script.Step{Kind: script.Spoil, Text: text, N: 3, Names: true, Keeps: []int{1}}); r != (script.Result{}) {
				t.Errorf("behind %q: %.20q: %+v", ahead, text, r)
			}
			plays(t, w, "run 1", "none", script.Result{Err: api.ErrNone})
			// It is safe at once, and nothing goes on behind it.
			w.Do(script.Step{Kind: script.Quota, N: room})
			plays(t, w, "crash\nstart", "ok ok", script.Result{})
			if r := w.Finish(room, enough); r != ended(n, 3) {
				t.Errorf("behind %q, %.20q: Finish: %+v", ahead, text, r)
			}
		}
		w := x.world(t, 5)
		play(t, w, ahead)
		if r := w.Do(script.Step{Kind: script.Spoil, Text: longest + "a"}); r != (script.Result{Err: api.ErrArg}) {
			t.Errorf("behind %q: too long: %+v", ahead, r)
		}
		plays(t, w, "run 1", "none", script.Result{Err: api.ErrNone})
		// The journal is as it was.
		want := 0
		if strings.Contains(ahead, "start\nrun") {
			want = 5
		}
		if r := w.Finish(room, 0); r != (script.Result{Steps: want}) {
			t.Errorf("behind %q, too long: Finish: %+v, want %d steps", ahead, r, want)
		}
	}
	// The text takes room, and a dead disk stays dead.
	w := x.world(t, 5)
	w.Do(script.Step{Kind: script.Spoil, Text: longest})
	plays(t, w, "quota 5000\nstart\nquota 1000000\nstart", "ok full ok full", script.Result{Err: api.ErrFull})
	w = x.world(t, 5)
	plays(t, w, "start\narm 0\nrun 1000\nspoil a\nstart\ncrash\nstart", "ok ok dead ok dead ok ok", script.Result{})
}

// P20.3, P6: behind Spoil what was printed is somebody else's.
func TestSpoilBehindOutput(t *testing.T) {
	x := over("{print;print NR > \"o\"}", "in", "a 1\nb 2\n")
	w := x.world(t, 3)
	w.Finish(room, 14)
	was := w.Files()
	if len(was) != 2 {
		t.Fatalf("Files: %q", was)
	}
	w.Do(script.Step{Kind: script.Spoil, Text: "a"})
	if r := w.Finish(room, enough); !r.Over || r.Ended != api.ErrRun || !slices.Equal(w.Files(), was) {
		t.Errorf("Finish: %+v, %q", r, w.Files())
	}
}

// checkpoints: the journal's bytes at each checkpoint of a plan's run.
func (x plan) checkpoints(t *testing.T, interval int) []string {
	t.Helper()
	d := disk.New(room)
	spec := x.spec(interval)
	for _, f := range x.in {
		d.Put(f.Name, f.Text)
		spec.Inputs = append(spec.Inputs, f.Name)
	}
	j, _, e := job.Start(d, spec)
	var l []string
	for e == api.OK && len(l) < 100 {
		text, _ := d.Read(journal.File, 0, room)
		if l = append(l, text); j.Over() {
			break
		}
		e = j.Run(interval)
	}
	return l
}

// P6: a checkpoint that was kept earlier is gone on from, where the files that it knows lie there, and the run comes to the same end.
func TestSpoilWithCheckpoint(t *testing.T) {
	each(t, large(), func(t *testing.T, x plan, l []moment) {
		const interval = 9
		kept := x.checkpoints(t, interval)
		for i, frame := range kept {
			w := x.world(t, interval)
			w.Finish(room, enough)
			w.Do(script.Step{Kind: script.Spoil, Text: frame})
			want := l[min(i*interval, len(l)-1)]
			if r := w.Do(script.Step{Kind: script.Start}); r != want.Result || !slices.Equal(w.Files(), want.files) {
				t.Fatalf("%q: checkpoint %d: %+v, %q, want %+v", x.source, i, r, w.Files(), want)
			}
			if r := w.Finish(room, enough); r != l[len(l)-1].Result || !slices.Equal(w.Files(), l[len(l)-1].files) {
				t.Fatalf("%q: behind checkpoint %d: %+v, %q", x.source, i, r, w.Files())
			}
		}
	})
}

// spoilt: bytes for a journal: any at all, a checkpoint, another job's, one that is changed, in a right frame as a rule.
func (n *numbers) spoilt(own, others []string) string {
	frame := own[n.next(len(own))]
	text, _ := journal.Open(frame)
	switch n.next(8) {
	case 0:
		return strings.Repeat(one(n, "", "a", "(", "\xff", "scribe 1 "), n.next(30))
	case 1:
		return frame
	case 2:
		return others[n.next(len(others))]
	case 3:
		return n.changed(frame)
	case 4:
		return frame[:n.next(len(frame))]
	}
	for range 1 + n.next(3) {
		text = n.changed(text)
	}
	return journal.Frame(text)
}

// changed: bytes of which one is another, or some are gone or there twice.
func (n *numbers) changed(s string) string {
	at := n.next(len(s) + 1)
	to := min(at+1+n.next(4), len(s))
	switch n.next(5) {
	case 0:
		return s[:at] + s[to:]
	case 1:
		return s[:to] + s[at:]
	}
	return s[:at] + one(n, "0", "1", "2", "9", "-", "i", ";", ":", "(", ")", "\xff") + s[min(at+1, len(s)):]
}

// spoilCodes: those that a step may have where journals are spoilt.
func spoilCodes(kind int) []api.Errno {
	if kind == script.Spoil {
		return []api.Errno{api.OK}
	}
	if kind == script.Run || kind == script.Start {
		return append(codes(kind), api.ErrBig)
	}
	return codes(kind)
}

// P20.3, P6: scripts with Spoil, of any steps in any order: each call ends, with one of its codes, and none panics; the same script does the same (K4).
func TestAnySpoiltScript(t *testing.T) {
	var others []string
	for _, x := range small() {
		others = append(others, x.checkpoints(t, 20)...)
	}
	each(t, large(), func(t *testing.T, x plan, l []moment) {
		own := x.checkpoints(t, 1+len(l)/40)
		on := 0
		for seed := range numbers(400) {
			n := seed
			v, w := x.world(t, 7), x.world(t, 7)
			for range n.next(60) {
				s := n.step()
				if n.next(4) == 0 {
					s = script.Step{Kind: script.Spoil, Text: n.spoilt(own, others)}
				}
				s.N = min(s.N, 3000)
				r := v.Do(s)
				if also := w.Do(s); also != r || !slices.Equal(v.Files(), w.Files()) {
					t.Fatalf("%q: %+v: %+v, and once more %+v", x.source, s, r, also)
				}
				if !slices.Contains(spoilCodes(s.Kind), r.Err) {
					t.Fatalf("%q: %+v: %+v", x.source, s, r)
				}
				if s.Kind == script.Start && r.Steps > 0 {
					on++
				}
			}
			r := v.Finish(room, 3000)
			if also := w.Finish(room, 3000); r != also || r.Err != api.OK && r.Err != api.ErrBig || !slices.Equal(v.Files(), w.Files()) || v.Starts != w.Starts || v.Done != w.Done {
				t.Fatalf("%q: Finish: %+v, and once more %+v", x.source, r, also)
			}
		}
		if on < 50 {
			t.Errorf("%q: %d went on", x.source, on)
		}
	})
}
