package array_test

import (
	"slices"
	"strconv"
	"strings"
	"testing"

	"scribe/api"
	"scribe/array"
	"scribe/cell"
	"scribe/pack"
)

func text(s string) string {
	return strconv.Itoa(len(s)) + ":" + s
}

func put(c cell.Cell) string {
	var w pack.Writer
	array.Put(&w, c)
	return w.Bytes()
}

func written(a *array.Array) string {
	var w pack.Writer
	a.Write(&w)
	return w.Bytes()
}

// P8.1: Put of each kind of value.
func TestPut(t *testing.T) {
	for _, c := range []struct {
		c    cell.Cell
		want string
	}{
		{cell.Of(1500000), "i1;i1500000;"}, // the chapter's
		{cell.Cell{}, "i0;"}, {cell.Of(0), "i1;i0;"}, {cell.Of(-1), "i1;i-1;"}, {cell.Of(most), "i1;i4611686018427387903;"}, {cell.Of(-most), "i1;i-4611686018427387903;"},
		{cell.Text(""), "i2;0:"}, {cell.Text("abc"), "i2;3:abc"}, {cell.Text("10"), "i2;2:10"}, {cell.Input("x"), "i2;1:x"}, {cell.Input(" 10 "), "i3;4: 10 "}, {cell.Input("-0"), "i3;2:-0"}, {cell.Text("i1;\x00"), "i2;4:i1;\x00"},
		// What is too long to be read is written whole.
		{cell.Text(strings.Repeat("x", 4001)), "i2;4001:" + strings.Repeat("x", 4001)},
	} {
		if got := put(c.c); got != c.want {
			t.Errorf("Put(%v): %.60q, want %.60q", c.c, got, c.want)
		}
	}
	var w pack.Writer
	w.Open()
	array.Put(&w, cell.Int(1))
	array.Put(&w, cell.Text("a"))
	if w.Bytes() != "(i1;i1000000;i2;1:a" {
		t.Errorf("Put behind others: %q", w.Bytes())
	}
}

// P8.1, P8.2: Get of what Put wrote, and no byte more.
func TestGetOfPut(t *testing.T) {
	for _, c := range append(values(), cell.Text(strings.Repeat("x", 4000)), cell.Input(strings.Repeat("9", 4000))) {
		for _, behind := range []string{"", "i1;", "9", ":", ")"} {
			s := put(c)
			r := pack.Read(s + behind)
			if got, e := array.Get(r); got != c || e != api.OK || r.At() != len(s) || r.Err() != api.OK {
				t.Errorf("Get of %.60q: %v, %d, at %d", s+behind, got, e, r.At())
			}
		}
		// Cut off at any place.
		s := put(c)
		for n := range min(len(s), 100) {
			r := pack.Read(s[:n])
			if got, e := array.Get(r); got != (cell.Cell{}) || e != api.ErrEnd || r.Err() != api.ErrEnd {
				t.Errorf("Get of %.60q: %v, %d", s[:n], got, e)
			}
		}
	}
}

// P8.1: Get of what is no value.
func TestGetOfOthers(t *testing.T) {
	for _, c := range []struct {
		s    string
		want api.Errno
	}{
		{"", api.ErrEnd}, {"i", api.ErrEnd}, {"i1;", api.ErrEnd}, {"i2;", api.ErrEnd}, {"i3;", api.ErrEnd}, {"i2;3:ab", api.ErrEnd}, {"i3;2:1", api.ErrEnd},
		// Other things.
		{"x", api.ErrForm}, {"(", api.ErrForm}, {")", api.ErrForm}, {"1:a", api.ErrForm}, {"(i0;)", api.ErrForm}, {"i01;i1;", api.ErrForm}, {"i-0;", api.ErrForm}, {"i1;1:a", api.ErrForm}, {"i1;(", api.ErrForm}, {"i1;i01;", api.ErrForm}, {"i1;i-0;", api.ErrForm},
		{"i2;i1;", api.ErrForm}, {"i3;i1;", api.ErrForm}, {"i2;(", api.ErrForm}, {"i2;01:a", api.ErrForm}, {"i3;)", api.ErrForm}, {"i9223372036854775808;", api.ErrForm}, {"i1;i9223372036854775808;", api.ErrForm}, {"i1;i-9223372036854775809;", api.ErrForm},
		// Kinds that there aren't.
		{"i4;", api.ErrForm}, {"i-1;", api.ErrForm}, {"i4;i1;", api.ErrForm}, {"i5;1:a", api.ErrForm}, {"i9223372036854775807;", api.ErrForm}, {"i-9223372036854775808;", api.ErrForm}, {"i4294967297;i0;", api.ErrForm}, {"i256;", api.ErrForm},
		// Numbers beyond Most.
		{"i1;i4611686018427387904;", api.ErrForm}, {"i1;i-4611686018427387904;", api.ErrForm}, {"i1;i9223372036854775807;", api.ErrForm}, {"i1;i-9223372036854775808;", api.ErrForm},
		// Texts from outside that are no numbers.
		{"i3;0:", api.ErrForm}, {"i3;1:x", api.ErrForm}, {"i3;1: ", api.ErrForm}, {"i3;3:1x2", api.ErrForm}, {"i3;2:1x", api.ErrForm}, {"i3;1:-", api.ErrForm},
		// Texts of more than 4000 bytes, told by their number alone; a text that isn't there is told ahead of its not being one.
		{"i2;4001:" + strings.Repeat("x", 4001), api.ErrBig}, {"i3;4001:" + strings.Repeat("1", 4001), api.ErrBig}, {"i2;4001", api.ErrBig}, {"i3;4001x", api.ErrBig}, {"i2;9223372036854775807:", api.ErrBig}, {"i2;4000:x", api.ErrEnd}, {"i3;4000:x", api.ErrEnd}, {"i2;99999999999999999999:", api.ErrForm},
	} {
		r := pack.Read(c.s)
		if got, e := array.Get(r); got != (cell.Cell{}) || e != c.want {
			t.Errorf("Get of %.60q: %v, %d, want %d", c.s, got, e, c.want)
		}
	}
}

// P8.1: of a reader that has an error already, that one.
func TestReaderWithError(t *testing.T) {
	for _, c := range []struct {
		s    string
		fail func(r *pack.Reader)
		want api.Errno
	}{
		{"1:a", func(r *pack.Reader) { r.Text(0) }, api.ErrBig},
		{"", func(r *pack.Reader) { r.Skip() }, api.ErrEnd},
		{"i0;", func(r *pack.Reader) { r.Done() }, api.ErrForm},
		{"()", func(r *pack.Reader) { r.Done() }, api.ErrForm},
		{strings.Repeat("(", 61), func(r *pack.Reader) { r.Skip() }, api.ErrDeep},
	} {
		r := pack.Read(c.s)
		c.fail(r)
		at := r.At()
		if got, e := array.Get(r); got != (cell.Cell{}) || e != c.want || r.At() != at {
			t.Errorf("Get of %q: %v, %d, want %d", c.s, got, e, c.want)
		}
		if got, e := array.Read(r); got != nil || e != c.want || r.At() != at {
			t.Errorf("Read of %q: %v, %d, want %d", c.s, got, e, c.want)
		}
	}
}

// P8.1: a list is read that stands as deep as lists may, and no deeper.
func TestReadDeep(t *testing.T) {
	for open, want := range map[int]api.Errno{0: api.OK, 59: api.OK, 60: api.ErrDeep} {
		r := pack.Read(strings.Repeat("(", open+1) + ")")
		for range open {
			r.Open()
		}
		if a, e := array.Read(r); e != want || (a != nil) != (want == api.OK) {
			t.Errorf("Read in %d lists: %v, %d, want %d", open, a, e, want)
		}
	}
}

// someArrays are arrays of each size, with each kind of value.
func someArrays() []*array.Array {
	l := []*array.Array{{}}
	for n := 1; n <= 6; n++ {
		a := &array.Array{}
		for i := range n {
			a.Set([]string{"b", "", "a", "10", "i1;)(", "\x00\xff"}[i], values()[(n*5+i)%len(values())])
		}
		l = append(l, a)
	}
	every := &array.Array{}
	for i, c := range values() {
		every.Set(strconv.Itoa(-i), c)
	}
	big := &array.Array{}
	big.Set(strings.Repeat("k", 4000), cell.Text(strings.Repeat("x", 4000)))
	return append(l, every, big)
}

// P8.2: there and back, and no byte more is taken.
func TestWriteAndRead(t *testing.T) {
	for _, a := range someArrays() {
		s := written(a)
		for _, behind := range []string{"", "(", ")", "i1;", "x", s} {
			r := pack.Read(s + behind)
			b, e := array.Read(r)
			if e != api.OK || r.At() != len(s) || r.Err() != api.OK {
				t.Fatalf("Read of %.60q: %d, at %d", s+behind, e, r.At())
			}
			if !slices.Equal(all(a.All()), all(b.All())) || !slices.Equal(a.Keys(), b.Keys()) || written(b) != s {
				t.Errorf("Read of %.60q: %v", s, all(b.All()))
			}
			// It takes calls as any other.
			b.Delete("b")
			b.Set("b", cell.Int(1))
			if l := b.Keys(); l[len(l)-1] != "b" {
				t.Errorf("a key that came again: %q", l)
			}
		}
	}
}

// P8.1: Write stands behind what was written, and changes nothing.
func TestWriteBehind(t *testing.T) {
	var a array.Array
	a.Set("k", cell.Int(1))
	var w pack.Writer
	w.Int(7)
	a.Write(&w)
	a.Write(&w)
	new(array.Array).Write(&w)
	if w.Bytes() != "i7;(1:ki1;i1000000;)(1:ki1;i1000000;)()" || a.Len() != 1 {
		t.Errorf("Write: %q", w.Bytes())
	}
}

// P8.1: Read of what is cut off at any place.
func TestReadCutOff(t *testing.T) {
	for _, a := range someArrays() {
		s := written(a)
		for n := range min(len(s), 300) {
			if b, e := array.Read(pack.Read(s[:n])); b != nil || e != api.ErrEnd {
				t.Fatalf("Read of %.60q: %v, %d", s[:n], b, e)
			}
		}
	}
}

// P8.1: Read of what is no array.
func TestReadOfOthers(t *testing.T) {
	long, longer := strings.Repeat("k", 4000), strings.Repeat("k", 4001)
	for _, c := range []struct {
		s    string
		want api.Errno
	}{
		{"", api.ErrEnd}, {"(", api.ErrEnd}, {"(1:a", api.ErrEnd}, {"(1:ai0;", api.ErrEnd}, {"(1:ai2;5:", api.ErrEnd},
		// No list, or none that ends.
		{")", api.ErrForm}, {"i1;", api.ErrForm}, {"1:ai0;", api.ErrForm}, {"x", api.ErrForm}, {"(1:ai0;x", api.ErrForm}, {"(x", api.ErrForm},
		// Other things in the place of a key.
		{"(i1;i0;)", api.ErrForm}, {"(()i0;)", api.ErrForm}, {"(-1:ai0;)", api.ErrForm}, {"(01:ai0;)", api.ErrForm}, {"(:i0;)", api.ErrForm},
		// Other things in the place of a value, or none.
		{"(1:a)", api.ErrForm}, {"(1:a1:b)", api.ErrForm}, {"(1:a())", api.ErrForm}, {"(1:ai1;1:b)", api.ErrForm}, {"(1:ai2;i1;)", api.ErrForm}, {"(1:ai0;1:b)", api.ErrForm}, {"(1:ai1;)", api.ErrForm}, {"(1:ai2;)", api.ErrForm},
		// Values that aren't Good.
		{"(1:ai4;)", api.ErrForm}, {"(1:ai-1;)", api.ErrForm}, {"(1:ai3;1:x)", api.ErrForm}, {"(1:ai3;0:)", api.ErrForm}, {"(1:ai1;i4611686018427387904;)", api.ErrForm}, {"(1:ai1;i9223372036854775807;)", api.ErrForm}, {"(1:ai0;1:bi7;)", api.ErrForm}, {"(1:ai4;", api.ErrForm},
		// Keys that stand twice; the value is asked for first.
		{"(1:ai0;1:ai0;)", api.ErrForm}, {"(0:i0;0:i0;)", api.ErrForm}, {"(1:ai0;1:bi0;1:ai1;i0;)", api.ErrForm}, {"(1:ai0;1:ai0;", api.ErrForm}, {"(1:ai0;1:ai0;1:ai2;4001:", api.ErrForm}, {"(1:ai0;1:a", api.ErrEnd}, {"(1:ai0;1:ai2;4001:)", api.ErrBig},
		// Texts of more than 4000 bytes.
		{"(" + text(long) + "i0;" + text(longer) + "i0;)", api.ErrBig}, {"(1:ai2;" + text(longer) + ")", api.ErrBig}, {"(1:ai3;4001:" + strings.Repeat("1", 4001) + ")", api.ErrBig}, {"(4001", api.ErrBig},
	} {
		if a, e := array.Read(pack.Read(c.s)); a != nil || e != c.want {
			t.Errorf("Read of %.60q: %v, %d, want %d", c.s, a, e, c.want)
		}
	}
}

// P8.2: what is read, however it came about, is what is written again of it.
func TestOneSpelling(t *testing.T) {
	const signs = "0123:;i()-ab x.\x00\xff"
	var d draws
	taken := 0
	for _, a := range someArrays() {
		s := written(a)
		if len(s) > 1000 {
			continue
		}
		for range 20000 {
			b := []byte(s)
			for range 1 + d.next(3) {
				at := d.next(len(b) + 1)
				switch d.next(3) {
				case 0:
					b = slices.Insert(b, at, signs[d.next(len(signs))])
				case 1:
					b = slices.Delete(b, min(at, len(b)), min(at+1, len(b)))
				default:
					b[min(at, len(b)-1)] = signs[d.next(len(signs))]
				}
				if len(b) == 0 {
					b = []byte("(")
				}
			}
			r := pack.Read(string(b))
			read, e := array.Read(r)
			if e != api.OK {
				if read != nil || !slices.Contains([]api.Errno{api.ErrEnd, api.ErrForm, api.ErrBig}, e) {
					t.Fatalf("Read of %q: %v, %d", b, read, e)
				}
				continue
			}
			taken++
			if got := written(read); got != string(b[:r.At()]) {
				t.Fatalf("Read of %q, written again: %q", b, got)
			}
			for _, h := range all(read.All()) {
				if !cell.Good(h.c) {
					t.Fatalf("Read of %q: %v isn't good", b, h.c)
				}
			}
		}
	}
	if taken < 1000 {
		t.Errorf("only %d were taken", taken)
	}
}
