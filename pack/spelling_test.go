package pack_test

import (
	"regexp"
	"strconv"
	"strings"
	"testing"
	"unsafe"

	"scribe/api"
	"scribe/pack"
)

// spellings calls f with each text of at most n of the bytes of alphabet.
func spellings(alphabet string, n int, f func(s string)) {
	var grow func(s string)
	grow = func(s string) {
		f(s)
		if len(s) < n {
			for i := range len(alphabet) {
				grow(s + alphabet[i:i+1])
			}
		}
	}
	grow("")
}

// longest is how many bytes of s are, of all its beginnings, the longest one that is of the form.
func longest(form *regexp.Regexp, s string) int {
	for n := len(s); n > 0; n-- {
		if form.MatchString(s[:n]) {
			return n
		}
	}
	return 0
}

// P1.2: what the document says of numbers, by way of what can be the beginning of one.
func TestEachIntOfFewBytes(t *testing.T) {
	beginning := regexp.MustCompile(`^i?$|^i-$|^i0;?$|^i-?[1-9][0-9]*;?$`)
	whole := regexp.MustCompile(`^i.*;$`)
	spellings("i-019;:", 6, func(s string) {
		n := longest(beginning, s)
		want, number := told{api.ErrForm, n}, 0
		switch {
		case whole.MatchString(s[:n]):
			want.err = api.OK
			number, _ = strconv.Atoi(s[1 : n-1])
		case n == len(s):
			want.err = api.ErrEnd
		}
		r := pack.Read(s)
		if got := r.Int(); got != number || tell(r) != want {
			t.Fatalf("Int of %q: %d, %v, want %d, %v", s, got, tell(r), number, want)
		}
	})
}

// P1.2: likewise of the number of a text's bytes.
func TestEachTextOfFewBytes(t *testing.T) {
	beginning := regexp.MustCompile(`^$|^0:?$|^[1-9][0-9]*:?$`)
	digits := regexp.MustCompile(`^[0-9]+`)
	spellings("0123:-", 5, func(s string) {
		for most := -1; most < 15; most++ {
			n := longest(beginning, s)
			want, text := told{api.ErrForm, n}, ""
			count, err := strconv.Atoi(digits.FindString(s[:n]))
			left := len(s) - n
			switch {
			case err == nil && count > max(most, 0):
				want = told{api.ErrBig, len(digits.FindString(s[:n]))}
			case strings.HasSuffix(s[:n], ":") && count <= left:
				want = told{api.OK, n + count}
				text = s[n : n+count]
			case strings.HasSuffix(s[:n], ":") || left == 0:
				want.err = api.ErrEnd
			}
			r := pack.Read(s)
			if got := r.Text(most); got != text || tell(r) != want {
				t.Fatalf("Text(%d) of %q: %q, %v, want %q, %v", most, s, got, tell(r), text, want)
			}
		}
	})
}

// copyThing reads the next thing sign by sign, and writes it.
func copyThing(r *pack.Reader, w *pack.Writer, next byte, s string) {
	switch next {
	case 'i':
		w.Int(r.Int())
	case '(':
		r.Open()
		w.Open()
		for r.More() {
			copyThing(r, w, s[r.At()], s)
		}
		r.Close()
		w.Close()
	default:
		w.Text(r.Text(len(s)))
	}
}

// P1.3: of all texts of few bytes those that are a thing are written, when read, as they are. P1.2: Skip takes just these.
func TestOneSpelling(t *testing.T) {
	taken := 0
	spellings("()i-012;:a", 5, func(s string) {
		k := pack.Read(s)
		k.Skip()
		if k.At() > len(s) || k.Err() == api.ErrEnd && k.More() {
			t.Fatalf("Skip of %q: %v", s, tell(k))
		}
		if s == "" {
			return
		}
		var w pack.Writer
		r := pack.Read(s)
		copyThing(r, &w, s[0], s)
		if tell(r) != tell(k) {
			t.Fatalf("%q: read %v, skipped %v", s, tell(r), tell(k))
		}
		if r.Done() == api.OK {
			taken++
			if w.Bytes() != s {
				t.Fatalf("%q is written as %q", s, w.Bytes())
			}
		}
	})
	if taken < 100 {
		t.Errorf("only %d things", taken)
	}
}

// numbers is a row of numbers that has no pattern to speak of, the same each time.
type numbers uint64

func (n *numbers) next(below int) int {
	*n = *n*6364136223846793005 + 1442695040888963407
	return int(uint64(*n)>>33) % below
}

// thing is a number, a text or a list.
type thing struct {
	kind  int
	n     int
	text  string
	items []thing
}

func (n *numbers) thing(deep int) thing {
	x := thing{kind: n.next(3)}
	if deep == 0 {
		x.kind = n.next(2)
	}
	switch x.kind {
	case 0:
		x.n = (n.next(1<<31)<<32 | n.next(1<<31)<<1) >> n.next(63)
		if n.next(2) == 0 {
			x.n = ^x.n
		}
	case 1:
		for range n.next(40) {
			x.text += string([]byte{byte(n.next(256))})
		}
	case 2:
		for range n.next(5) {
			x.items = append(x.items, n.thing(deep-1))
		}
	}
	return x
}

func (x thing) write(w *pack.Writer) {
	switch x.kind {
	case 0:
		w.Int(x.n)
	case 1:
		w.Text(x.text)
	case 2:
		w.Open()
		for _, y := range x.items {
			y.write(w)
		}
		w.Close()
	}
}

func (x thing) check(t *testing.T, r *pack.Reader) {
	switch x.kind {
	case 0:
		if n := r.Int(); n != x.n {
			t.Fatalf("%d is read as %d", x.n, n)
		}
	case 1:
		if s := r.Text(len(x.text)); s != x.text {
			t.Fatalf("%q is read as %q", x.text, s)
		}
	case 2:
		r.Open()
		for _, y := range x.items {
			if !r.More() {
				t.Fatal("More is false ahead of a thing")
			}
			y.check(t, r)
		}
		if r.More() {
			t.Fatal("More is true at a list's end")
		}
		r.Close()
	}
}

// P1.3.
func TestThereAndBack(t *testing.T) {
	row := numbers(1)
	for range 3000 {
		x := row.thing(6)
		var w pack.Writer
		x.write(&w)
		r := pack.Read(w.Bytes())
		x.check(t, r)
		if r.Done() != api.OK || r.At() != len(w.Bytes()) {
			t.Fatalf("%q: %v", w.Bytes(), tell(r))
		}
		k := pack.Read(w.Bytes())
		k.Skip()
		if k.Done() != api.OK {
			t.Fatalf("Skip of %q: %v", w.Bytes(), tell(k))
		}
	}
}

// P1.2, P1: one byte changed, or wanting: whatever is called, the reader ends, and its place never goes back.
func TestSpoiltBytes(t *testing.T) {
	row := numbers(2)
	for range 3000 {
		var w pack.Writer
		row.thing(4).write(&w)
		b := []byte(w.Bytes())
		b[row.next(len(b))] = byte(row.next(256))
		s := string(b[:row.next(len(b)+1)])
		r := pack.Read(s)
		for range 30 {
			was := tell(r)
			callAny(r, row.next(6))
			is := tell(r)
			if is.at < was.at || is.at > len(s) || was.err != api.OK && is != was {
				t.Fatalf("%q: %v and then %v", s, was, is)
			}
		}
	}
}

func callAny(r *pack.Reader, which int) {
	switch which {
	case 0:
		r.Int()
	case 1:
		r.Text(9)
	case 2:
		r.Open()
	case 3:
		r.Close()
	case 4:
		r.More()
	default:
		r.Skip()
	}
}

// place is a thing with its place.
type place struct {
	at int
	s  string
}

func things(s string) []place {
	var l []place
	for at, x := range pack.Things(s) {
		l = append(l, place{at, x})
	}
	return l
}

// P1.4.
func TestThings(t *testing.T) {
	deep := strings.Repeat("(", pack.MaxDeep) + strings.Repeat(")", pack.MaxDeep)
	for _, c := range []struct {
		s    string
		want []place
	}{
		{"i1;(2:ab)x", []place{{0, "i1;"}, {3, "(2:ab)"}}},
		{"", nil},
		{"x", nil},
		{")", nil},
		{"i1;)i2;", []place{{0, "i1;"}}},
		{"0:0:", []place{{0, "0:"}, {2, "0:"}}},
		{"()(i-1;())3:(((", []place{{0, "()"}, {2, "(i-1;())"}, {10, "3:((("}}},
		{"i1;i", []place{{0, "i1;"}}},
		{"i1;(i2;", []place{{0, "i1;"}}},
		{"1:a4:bcd", []place{{0, "1:a"}}},
		{"i01;", nil},
		{deep + deep + "(" + deep + ")", []place{{0, deep}, {len(deep), deep}}},
	} {
		got := things(c.s)
		same := len(got) == len(c.want)
		for i := 0; same && i < len(got); i++ {
			same = got[i] == c.want[i]
		}
		if !same {
			t.Errorf("Things(%q): %v, want %v", c.s, got, c.want)
		}
	}
}

// P1.4: all that are taken are s, from its beginning on, and what is left begins with no thing.
func TestThingsAreTheBeginning(t *testing.T) {
	spellings("()i01;:", 6, func(s string) {
		taken := ""
		for at, x := range pack.Things(s) {
			if at != len(taken) || x == "" {
				t.Fatalf("Things(%q): %q at %d behind %q", s, x, at, taken)
			}
			taken += x
		}
		if !strings.HasPrefix(s, taken) {
			t.Fatalf("Things(%q): %q", s, taken)
		}
		r := pack.Read(s)
		for r.At() < len(taken) {
			r.Skip()
		}
		if r.Skip(); r.At() < len(taken) || r.Err() == api.OK {
			t.Fatalf("Things(%q) left %q", s, s[len(taken):])
		}
	})
}

// K7, K4: an iterator may be left at any time, and gone through again.
func TestThingsAreLeftAndGoneThroughAgain(t *testing.T) {
	all := pack.Things("i1;i2;i3;")
	for most := range 5 {
		count := 0
		for at, x := range all {
			if count == most {
				break
			}
			if at != 3*count || x != "i"+strconv.Itoa(count+1)+";" {
				t.Errorf("%q at %d", x, at)
			}
			count++
		}
		if count != min(most, 3) {
			t.Errorf("%d things, want %d", count, min(most, 3))
		}
	}
	for range all {
		for at := range all {
			if at != 0 {
				t.Error("one pass moves the other")
			}
			break
		}
	}
}

// within: do the bytes of x lie in those of s?
func within(x, s string) bool {
	from, at := uintptr(unsafe.Pointer(unsafe.StringData(s))), uintptr(unsafe.Pointer(unsafe.StringData(x)))
	return from <= at && at < from+uintptr(len(s))
}

// K3: an answer shares no memory with what was handed in, nor with another answer.
func TestAnswersShareNothing(t *testing.T) {
	s := "3:abc(i1;)"
	if within(pack.Read(s).Text(3), s) {
		t.Error("Text")
	}
	for _, x := range pack.Things(s) {
		for _, y := range pack.Things(s) {
			if within(x, s) || within(x, y) {
				t.Errorf("Things: %q", x)
			}
		}
	}
}
