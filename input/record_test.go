package input_test

import (
	"math"
	"math/rand"
	"reflect"
	"slices"
	"strings"
	"testing"

	"scribe/api"
	"scribe/cell"
	"scribe/input"
	"scribe/num"
)

// words is a record by the chapter's words: a text, and fields that need not be its.
type words struct {
	text   string
	fields []cell.Cell
}

func (w *words) load(s, sep string) api.Errno {
	l, e := input.Split(s, sep, false)
	if e == api.OK {
		w.text, w.fields = s, nil
		for _, field := range l {
			w.fields = append(w.fields, cell.Input(field))
		}
	}
	return e
}

func (w *words) get(i int) (cell.Cell, api.Errno) {
	switch {
	case i < 0:
		return cell.Cell{}, api.ErrRun
	case i > 500:
		return cell.Cell{}, api.ErrSize
	case i == 0:
		return cell.Input(w.text), api.OK
	case i <= len(w.fields):
		return w.fields[i-1], api.OK
	}
	return cell.Cell{}, api.OK
}

// anew: these fields, and the text made of them, unless it is too long.
func (w *words) anew(fields []cell.Cell, ofs string) api.Errno {
	var l []string
	for _, c := range fields {
		l = append(l, c.Str())
	}
	text := strings.Join(l, ofs)
	if len(text) > 4000 {
		return api.ErrSize
	}
	w.text, w.fields = text, fields
	return api.OK
}

func (w *words) resize(n int, ofs string) api.Errno {
	if _, e := w.get(n); e != api.OK {
		return e
	}
	fields := slices.Clone(w.fields[:min(n, len(w.fields))])
	for len(fields) < n {
		fields = append(fields, cell.Cell{})
	}
	return w.anew(fields, ofs)
}

func (w *words) set(i int, c cell.Cell, sep, ofs string) api.Errno {
	if _, e := w.get(i); e != api.OK {
		return e
	}
	if i == 0 {
		return w.load(c.Str(), sep)
	}
	fields := slices.Clone(w.fields)
	for len(fields) < i {
		fields = append(fields, cell.Cell{})
	}
	fields[i-1] = c
	return w.anew(fields, ofs)
}

// same: is a record as the words say, in all that it tells?
func same(t *testing.T, r *input.Record, w *words, behind string) {
	t.Helper()
	if r.Text() != w.text || r.Count() != len(w.fields) || !slices.Equal(r.Fields(), w.fields) {
		t.Fatalf("%s: %q, %d, %v, want %q, %v", behind, r.Text(), r.Count(), r.Fields(), w.text, w.fields)
	}
	for _, i := range []int{math.MinInt, -1, 0, 1, 2, 3, 4, len(w.fields) - 1, len(w.fields), len(w.fields) + 1, 499, 500, 501, math.MaxInt} {
		c, e := r.Get(i)
		if want, wantE := w.get(i); c != want || e != wantE {
			t.Fatalf("%s: Get(%d) = %v, %d, want %v, %d", behind, i, c, e, want, wantE)
		}
	}
}

// someCell: a value of any kind.
func someCell(r *rand.Rand) cell.Cell {
	switch r.Intn(8) {
	case 0:
		return cell.Cell{}
	case 1, 2:
		return cell.Of(num.Num(r.Intn(5000000) - 2000000))
	case 3:
		return cell.Input([]string{"10", " 1 ", "x", "1x", ""}[r.Intn(5)])
	case 4:
		return cell.Text(strings.Repeat("y", []int{100, 1000, 3990, 3999, 4000}[r.Intn(5)]))
	}
	return cell.Text([]string{"", "a", "a b", "b,c", "10", " ", "a  b"}[r.Intn(7)])
}

// P16.2: a record is what the words say, behind any calls.
func TestRecord(t *testing.T) {
	r := rand.New(rand.NewSource(3))
	met := map[api.Errno]int{}
	for range 4000 {
		var record input.Record
		var w words
		same(t, &record, &w, "at first")
		for range 1 + r.Intn(14) {
			sep := []string{" ", ",", "", "[ab]", "((", "x*", " ,"}[r.Intn(7)]
			ofs := []string{" ", "-", "", "ab", "\n", strings.Repeat("-", 9), strings.Repeat("-", 2000)}[r.Intn(7)]
			i := []int{-1, 0, 0, 1, 1, 2, 3, 4, 7, 20, 400, 499, 500, 501, math.MinInt, math.MaxInt}[r.Intn(16)]
			var got, want api.Errno
			call := ""
			switch r.Intn(6) {
			case 0:
				s := strings.Repeat([]string{"", "a b", "a,b ", "1 2 ", "x"}[r.Intn(5)], []int{1, 2, 100, 250, 251, 499, 500, 501, 1000}[r.Intn(9)])
				got, want = record.Load(s, sep), w.load(s, sep)
				call = "Load"
			case 1, 2, 3:
				c := someCell(r)
				got, want = record.Set(i, c, sep, ofs), w.set(i, c, sep, ofs)
				call = "Set"
			case 4:
				got, want = record.Resize(i, ofs), w.resize(i, ofs)
				call = "Resize"
			case 5:
				fields := make([]cell.Cell, r.Intn(5)*r.Intn(200))
				for k := range fields {
					fields[k] = []cell.Cell{{}, cell.Int(k), cell.Text("p")}[r.Intn(3)]
				}
				record.Put("put", fields)
				w = words{"put", slices.Clone(fields)}
				call = "Put"
			}
			met[got]++
			if got != want {
				t.Fatalf("%s(%d): %d, want %d", call, i, got, want)
			}
			same(t, &record, &w, call)
		}
	}
	for _, e := range []api.Errno{api.OK, api.ErrRun, api.ErrSize} {
		if met[e] < 500 {
			t.Errorf("error %d is met %d times", e, met[e])
		}
	}
}

// loaded: a record of a text, by blanks.
func loaded(t *testing.T, s string) *input.Record {
	t.Helper()
	r := new(input.Record)
	if e := r.Load(s, " "); e != api.OK {
		t.Fatalf("Load(%q): %d", s, e)
	}
	return r
}

// told: a record's text, and behind it its fields as texts.
func told(r *input.Record) string {
	l := []string{r.Text()}
	for _, c := range r.Fields() {
		l = append(l, c.Str())
	}
	return strings.Join(l, "|")
}

// P16.2: calls by hand.
func TestRecordByHand(t *testing.T) {
	var zero input.Record
	if told(&zero) != "" || zero.Count() != 0 || len(zero.Fields()) != 0 {
		t.Errorf("the zero Record: %q, %d", told(&zero), zero.Count())
	}
	for i, want := range map[int]api.Errno{-1: api.ErrRun, 0: api.OK, 1: api.OK, 500: api.OK, 501: api.ErrSize} {
		c, e := zero.Get(i)
		if e != want || c != (cell.Cell{}) && c != cell.Text("") || i == 0 && c != cell.Text("") || i != 0 && c != (cell.Cell{}) {
			t.Errorf("the zero Record: Get(%d) = %v, %d", i, c, e)
		}
	}
	r := loaded(t, " 10  x y")
	for i, want := range []cell.Cell{cell.Text(" 10  x y"), cell.Input("10"), cell.Text("x"), cell.Text("y"), {}} {
		if c, e := r.Get(i); c != want || e != api.OK {
			t.Errorf("Get(%d) = %v, %d", i, c, e)
		}
	}
	for _, x := range []struct {
		do   func(r *input.Record) api.Errno
		e    api.Errno
		want string
	}{
		{func(r *input.Record) api.Errno { return r.Set(4, cell.Text("x"), " ", "-") }, api.OK, "a-b--x|a|b||x"},
		{func(r *input.Record) api.Errno { return r.Set(1, cell.Int(5), " ", "-") }, api.OK, "5-b|5|b"},
		{func(r *input.Record) api.Errno { return r.Set(1, cell.Text("c d"), " ", " ") }, api.OK, "c d b|c d|b"},
		{func(r *input.Record) api.Errno { return r.Set(2, cell.Cell{}, " ", "") }, api.OK, "a|a|"},
		{func(r *input.Record) api.Errno { return r.Set(0, cell.Text("c,d"), ",", "-") }, api.OK, "c,d|c|d"},
		{func(r *input.Record) api.Errno { return r.Set(0, cell.Of(1500000), ".", "-") }, api.OK, "1.5|1|5"},
		{func(r *input.Record) api.Errno { return r.Set(0, cell.Cell{}, "((", "-") }, api.OK, ""},
		{func(r *input.Record) api.Errno { return r.Set(0, cell.Text("x"), "((", "-") }, api.ErrRun, "a b|a|b"},
		{func(r *input.Record) api.Errno { return r.Set(0, cell.Text(strings.Repeat(",", 500)), ",", "-") }, api.ErrSize, "a b|a|b"},
		{func(r *input.Record) api.Errno { return r.Set(1, cell.Text("x"), "((", "-") }, api.OK, "x-b|x|b"},
		{func(r *input.Record) api.Errno { return r.Set(-1, cell.Text("x"), " ", "-") }, api.ErrRun, "a b|a|b"},
		{func(r *input.Record) api.Errno { return r.Set(501, cell.Text("x"), " ", "-") }, api.ErrSize, "a b|a|b"},
		{func(r *input.Record) api.Errno { return r.Load("x", "((") }, api.ErrRun, "a b|a|b"},
		{func(r *input.Record) api.Errno { return r.Load(strings.Repeat("x ", 501), " ") }, api.ErrSize, "a b|a|b"},
		{func(r *input.Record) api.Errno { return r.Load("", "((") }, api.OK, ""},
		{func(r *input.Record) api.Errno { return r.Load(" c,d", "") }, api.OK, " c,d| c,d"},
		{func(r *input.Record) api.Errno { return r.Load("c1d2", "[0-9]") }, api.OK, "c1d2|c|d|"},
		{func(r *input.Record) api.Errno { return r.Resize(-1, "-") }, api.ErrRun, "a b|a|b"},
		{func(r *input.Record) api.Errno { return r.Resize(501, "-") }, api.ErrSize, "a b|a|b"},
		{func(r *input.Record) api.Errno { return r.Resize(0, "-") }, api.OK, ""},
		{func(r *input.Record) api.Errno { return r.Resize(1, "-") }, api.OK, "a|a"},
		{func(r *input.Record) api.Errno { return r.Resize(2, "-") }, api.OK, "a-b|a|b"},
		{func(r *input.Record) api.Errno { return r.Resize(4, "-+") }, api.OK, "a-+b-+-+|a|b||"},
		{func(r *input.Record) api.Errno { r.Put("x", []cell.Cell{cell.Int(7)}); return api.OK }, api.OK, "x|7"},
		{func(r *input.Record) api.Errno { r.Put("x", nil); return r.Resize(1, "") }, api.OK, "|"},
		{func(r *input.Record) api.Errno { r.Put("x", nil); return r.Set(-1, cell.Int(1), "", "") }, api.ErrRun, "x"},
	} {
		r := loaded(t, "a b")
		if e := x.do(r); e != x.e || told(r) != x.want {
			t.Errorf("%q, %d, want %q, %d", told(r), e, x.want, x.e)
		}
	}
}

// P16.2: texts of exactly 4000 bytes, and of one more, are made of fields, with ofs of no byte, of one and of more.
func TestLongestText(t *testing.T) {
	for _, ofs := range []string{"", "-", "abc", strings.Repeat("-", 1000)} {
		for _, i := range []int{1, 2, 3, 4, 5} {
			r := loaded(t, "a b c")
			rest := "abc"
			if i <= 3 {
				rest = rest[:2]
			}
			room := 4000 - len(rest) - len(ofs)*(max(i, 3)-1)
			if room < 0 {
				continue
			}
			for _, size := range []int{room + 1, room, room - 1} {
				was := told(r)
				e := r.Set(i, cell.Text(strings.Repeat("x", size)), " ", ofs)
				if e != map[bool]api.Errno{true: api.ErrSize, false: api.OK}[size > room] || e == api.OK && len(r.Text()) != size+4000-room || e != api.OK && told(r) != was {
					t.Errorf("Set(%d) of %d bytes with ofs %.5q: %d, %d bytes", i, size, ofs, e, len(r.Text()))
				}
			}
		}
	}
	for n := 490; n <= 500; n++ {
		// n fields of no bytes, with 8 bytes between each two, but one of them.
		r := loaded(t, strings.Repeat("x", 4000-8*(n-1)))
		if e := r.Resize(n, strings.Repeat("-", 8)); e != api.OK || len(r.Text()) != 4000 {
			t.Errorf("Resize(%d): %d, %d bytes", n, e, len(r.Text()))
		}
		r = loaded(t, strings.Repeat("x", 4001-8*(n-1)))
		was := told(r)
		if e := r.Resize(n, strings.Repeat("-", 8)); e != api.ErrSize || told(r) != was {
			t.Errorf("Resize(%d): %d, %d bytes", n, e, len(r.Text()))
		}
		if e := r.Set(n, cell.Cell{}, " ", strings.Repeat("-", 8)); e != api.ErrSize || told(r) != was {
			t.Errorf("Set(%d): %d, %d bytes", n, e, len(r.Text()))
		}
	}
	r := loaded(t, strings.Repeat("x", 4000))
	if e := r.Load(strings.Repeat("y ", 500), " "); e != api.OK || r.Count() != 500 {
		t.Errorf("Load: %d, %d fields", e, r.Count())
	}
	if e := r.Resize(500, strings.Repeat("z", 1<<20)); e != api.ErrSize || r.Count() != 500 {
		t.Errorf("Resize with a long ofs: %d", e)
	}
}

// P16.2: more than 500 fields may be put, and stay as long as they aren't cut.
func TestPutMany(t *testing.T) {
	fields := make([]cell.Cell, 600)
	for i := range fields {
		fields[i] = cell.Int(i)
	}
	var r input.Record
	r.Put("text", fields)
	if r.Count() != 600 || r.Text() != "text" || !slices.Equal(r.Fields(), fields) {
		t.Errorf("Put: %q, %d fields", r.Text(), r.Count())
	}
	if c, e := r.Get(500); c != cell.Int(499) || e != api.OK {
		t.Errorf("Get(500) = %v, %d", c, e)
	}
	if c, e := r.Get(501); c != (cell.Cell{}) || e != api.ErrSize {
		t.Errorf("Get(501) = %v, %d", c, e)
	}
	if e := r.Set(1, cell.Text("x"), " ", ""); e != api.OK || r.Count() != 600 || !strings.HasPrefix(r.Text(), "x123") {
		t.Errorf("Set: %d, %d fields, %.9q", e, r.Count(), r.Text())
	}
	if e := r.Resize(500, " "); e != api.OK || r.Count() != 500 {
		t.Errorf("Resize: %d, %d fields", e, r.Count())
	}
}

// P2: a record keeps nothing of what it is handed, and what it answers is its own (K3); a copy of it stays as it was.
func TestRecordsApart(t *testing.T) {
	room := make([]cell.Cell, 3, 10)
	room[0], room[1], room[2] = cell.Text("a"), cell.Int(2), cell.Input("3")
	handed := slices.Clone(room[:cap(room)])
	var r input.Record
	r.Put("t", room)
	one := r.Fields()
	room[0] = cell.Text("spoilt")
	if told(&r) != "t|a|2|3" {
		t.Errorf("behind a change of what was put: %q", told(&r))
	}
	room[0] = handed[0]
	if e := r.Set(5, cell.Text("b"), " ", "-"); e != api.OK || !reflect.DeepEqual(room[:cap(room)], handed) {
		t.Errorf("Set: %d, the list that was handed in is %v", e, room[:cap(room)])
	}
	room[0] = cell.Text("spoilt")
	two := r.Fields()
	for i := range two[:cap(two)] {
		two[:cap(two)][i] = cell.Text("spoilt")
	}
	if told(&r) != "a-2-3--b|a|2|3||b" || !slices.Equal(one, handed[:3]) {
		t.Errorf("%q, %v", told(&r), one)
	}
	copied := r
	was := told(&copied)
	r.Set(1, cell.Text("other"), " ", "+")
	r.Resize(3, "+")
	if told(&copied) != was || told(&r) != "other+2+3|other|2|3" {
		t.Errorf("%q, and the copy %q", told(&r), told(&copied))
	}
	text := strings.Repeat("a b ", 3)
	r.Load(text, " ")
	for _, c := range append(r.Fields(), cell.Text(r.Text())) {
		if !apart(c.S, text) {
			t.Errorf("%q lies in the text that was loaded", c.S)
		}
	}
	if !apart(r.Text(), r.Text()) {
		t.Error("two answers of Text share memory")
	}
	handedIn := cell.Text("long enough")
	r.Set(1, handedIn, " ", " ")
	if c, _ := r.Get(1); !apart(c.S, handedIn.S) || c != handedIn {
		t.Error("Get: the value that was handed in")
	}
}

// P16.2: the chapter's examples.
func TestRecordExamples(t *testing.T) {
	if l, e := input.Split(" a  b ", " ", false); e != api.OK || !slices.Equal(l, []string{"a", "b"}) {
		t.Errorf("Split: %q", l)
	}
	if l, e := input.Split("a,,b", ",", false); e != api.OK || !slices.Equal(l, []string{"a", "", "b"}) {
		t.Errorf("Split: %q", l)
	}
	r := loaded(t, "a b")
	if e := r.Set(4, cell.Text("x"), " ", "-"); e != api.OK || r.Text() != "a-b--x" {
		t.Errorf("Set: %d, %q", e, r.Text())
	}
}
