package pack_test

import (
	"math"
	"strings"
	"testing"

	"scribe/api"
	"scribe/pack"
)

// told is what a call of a new Reader left: the error and the place.
type told struct {
	err api.Errno
	at  int
}

func tell(r *pack.Reader) told {
	return told{r.Err(), r.At()}
}

// P1.2.
func TestIntIsRead(t *testing.T) {
	for _, c := range []struct {
		s    string
		n    int
		want told
	}{
		{"i0;", 0, told{api.OK, 3}},
		{"i12;x", 12, told{api.OK, 4}},
		{"i-12;", -12, told{api.OK, 5}},
		{"i9223372036854775807;", math.MaxInt64, told{api.OK, 21}},
		{"i-9223372036854775808;", math.MinInt64, told{api.OK, 22}},
		// Outside an int: told at the digits' end.
		{"i9223372036854775808;", 0, told{api.ErrForm, 20}},
		{"i-9223372036854775809;", 0, told{api.ErrForm, 21}},
		{"i9999999999999999999;", 0, told{api.ErrForm, 20}},
		{"i9223372036854775808x", 0, told{api.ErrForm, 20}},
		{"i9223372036854775808", 0, told{api.ErrForm, 20}},
		// The twentieth digit can't stand there.
		{"i10000000000000000000;", 0, told{api.ErrForm, 20}},
		{"i-10000000000000000000;", 0, told{api.ErrForm, 21}},
		{"i18446744073709551617;", 0, told{api.ErrForm, 20}},
		{"i111111111111111111111111;", 0, told{api.ErrForm, 20}},
		// A second digit behind a first 0, and -0.
		{"i01;", 0, told{api.ErrForm, 2}},
		{"i00;", 0, told{api.ErrForm, 2}},
		{"i-0;", 0, told{api.ErrForm, 2}},
		{"i-01;", 0, told{api.ErrForm, 2}},
		{"i-0", 0, told{api.ErrForm, 2}},
		// Signs that can't stand there.
		{"x", 0, told{api.ErrForm, 0}},
		{"12;", 0, told{api.ErrForm, 0}},
		{"I1;", 0, told{api.ErrForm, 0}},
		{"i;", 0, told{api.ErrForm, 1}},
		{"i+1;", 0, told{api.ErrForm, 1}},
		{"i 1;", 0, told{api.ErrForm, 1}},
		{"i-;", 0, told{api.ErrForm, 2}},
		{"i--1;", 0, told{api.ErrForm, 2}},
		{"i1-;", 0, told{api.ErrForm, 2}},
		{"i1:", 0, told{api.ErrForm, 2}},
		{"i1/;", 0, told{api.ErrForm, 2}},
		{"i1\xff;", 0, told{api.ErrForm, 2}},
		{"i1a;", 0, told{api.ErrForm, 2}},
		{"2:ab", 0, told{api.ErrForm, 0}},
		{"(", 0, told{api.ErrForm, 0}},
		{")", 0, told{api.ErrForm, 0}},
	} {
		r := pack.Read(c.s)
		if n := r.Int(); n != c.n || tell(r) != c.want {
			t.Errorf("Int of %q: %d, %v, want %d, %v", c.s, n, tell(r), c.n, c.want)
		}
	}
}

// P1.2.
func TestTextIsRead(t *testing.T) {
	for _, c := range []struct {
		s    string
		most int
		text string
		want told
	}{
		{"0:", 0, "", told{api.OK, 2}},
		{"0:x", -5, "", told{api.OK, 2}},
		{"0:", math.MinInt64, "", told{api.OK, 2}},
		{"2:ab", 2, "ab", told{api.OK, 4}},
		{"2:abc", math.MaxInt64, "ab", told{api.OK, 4}},
		{"3:1:)", 3, "1:)", told{api.OK, 5}},
		{"10:1234567890", 10, "1234567890", told{api.OK, 13}},
		// More than most, told ahead of the colon.
		{"3:abc", 2, "", told{api.ErrBig, 1}},
		{"1:a", 0, "", told{api.ErrBig, 1}},
		{"1:a", -1, "", told{api.ErrBig, 1}},
		{"1:a", math.MinInt64, "", told{api.ErrBig, 1}},
		{"3x", 2, "", told{api.ErrBig, 1}},
		{"3", 2, "", told{api.ErrBig, 1}},
		{"9223372036854775807:a", math.MaxInt64 - 1, "", told{api.ErrBig, 19}},
		// Fewer bytes than that are left.
		{"3:ab", 3, "", told{api.ErrEnd, 2}},
		{"3:", 3, "", told{api.ErrEnd, 2}},
		{"9223372036854775807:a", math.MaxInt64, "", told{api.ErrEnd, 20}},
		// Of the digits as of a number.
		{"00:", 9, "", told{api.ErrForm, 1}},
		{"02:ab", 9, "", told{api.ErrForm, 1}},
		{"9223372036854775808:a", math.MaxInt64, "", told{api.ErrForm, 19}},
		{"9223372036854775808:a", 3, "", told{api.ErrForm, 19}},
		{"10000000000000000000:a", 3, "", told{api.ErrForm, 19}},
		{"-1:a", 9, "", told{api.ErrForm, 0}},
		{"-0:", 9, "", told{api.ErrForm, 0}},
		{"+1:a", 9, "", told{api.ErrForm, 0}},
		{":a", 9, "", told{api.ErrForm, 0}},
		{"1;a", 9, "", told{api.ErrForm, 1}},
		{"1a:", 9, "", told{api.ErrForm, 1}},
		{"i1;", 9, "", told{api.ErrForm, 0}},
		{"", 9, "", told{api.ErrEnd, 0}},
		{"1", 9, "", told{api.ErrEnd, 1}},
	} {
		r := pack.Read(c.s)
		if x := r.Text(c.most); x != c.text || tell(r) != c.want {
			t.Errorf("Text(%d) of %q: %q, %v, want %q, %v", c.most, c.s, x, tell(r), c.text, c.want)
		}
	}
}

// P1.2: bytes that are cut off at each place.
func TestCutOff(t *testing.T) {
	whole := "(i-120;(10:0123456789)0:)"
	for n := range len(whole) {
		r := pack.Read(whole[:n])
		r.Open()
		r.Int()
		r.Open()
		x := r.Text(10)
		r.Close()
		r.Text(0)
		r.Close()
		if r.Err() != api.ErrEnd || r.Done() != api.ErrEnd {
			t.Errorf("cut off at %d: %v", n, tell(r))
		}
		// Ahead of its bytes a text is either taken whole or not at all.
		inText := n > 11 && n < 21
		if !inText && r.At() != n || inText && r.At() != 11 {
			t.Errorf("cut off at %d: taken %d", n, r.At())
		}
		if (x != "") != (n >= 21) {
			t.Errorf("cut off at %d: the text %q", n, x)
		}
		s := pack.Read(whole[:n])
		s.Skip()
		if s.Err() != api.ErrEnd {
			t.Errorf("Skip, cut off at %d: %v", n, tell(s))
		}
	}
}

// P1.2.
func TestOpenAndClose(t *testing.T) {
	for _, c := range []struct {
		s     string
		calls string
		want  told
	}{
		{"()", "()", told{api.OK, 2}},
		{"(())", "(())", told{api.OK, 4}},
		{"()()", "()()", told{api.OK, 4}},
		{"", "(", told{api.ErrEnd, 0}},
		{")", "(", told{api.ErrForm, 0}},
		{"i1;", "(", told{api.ErrForm, 0}},
		{"(", "()", told{api.ErrEnd, 1}},
		{"((", "()", told{api.ErrForm, 1}},
		{"(x", "()", told{api.ErrForm, 1}},
		// No list is open, whatever stands there.
		{")", ")", told{api.ErrForm, 0}},
		{"", ")", told{api.ErrForm, 0}},
		{"x", ")", told{api.ErrForm, 0}},
		{"())", "())", told{api.ErrForm, 2}},
	} {
		r := pack.Read(c.s)
		play(r, c.calls)
		if tell(r) != c.want {
			t.Errorf("%s of %q: %v, want %v", c.calls, c.s, tell(r), c.want)
		}
	}
}

// play calls Open for each ( of calls, and Close for each ).
func play(r *pack.Reader, calls string) {
	for _, c := range calls {
		if c == '(' {
			r.Open()
		} else {
			r.Close()
		}
	}
}

// P1.2: lists as deep as MaxDeep, and one deeper.
func TestDeepLists(t *testing.T) {
	if pack.MaxDeep != 60 {
		t.Fatalf("MaxDeep: %d", pack.MaxDeep)
	}
	for n := range 70 {
		s := strings.Repeat("(", n) + strings.Repeat(")", n)
		want := told{api.OK, 2 * n}
		if n > pack.MaxDeep {
			want = told{api.ErrDeep, pack.MaxDeep}
		}
		r := pack.Read(s)
		play(r, s)
		if tell(r) != want || r.Done() != want.err {
			t.Errorf("%d lists: %v, want %v", n, tell(r), want)
		}
		if n > 0 {
			k := pack.Read(s)
			k.Skip()
			if tell(k) != want {
				t.Errorf("Skip of %d lists: %v, want %v", n, tell(k), want)
			}
		}
	}
}

// P1.2: ErrDeep is told ahead of what stands there; lists that are open count for Skip; those that ended don't.
func TestDeepCountsOpenLists(t *testing.T) {
	opens := strings.Repeat("(", pack.MaxDeep)
	for _, rest := range []string{"", "(", ")", "x", "i1;"} {
		r := pack.Read(opens + rest)
		play(r, opens+"(")
		if tell(r) != (told{api.ErrDeep, pack.MaxDeep}) {
			t.Errorf("one deeper at %q: %v", rest, tell(r))
		}
	}
	r := pack.Read(opens + "i1;()")
	play(r, opens)
	r.Skip()
	if tell(r) != (told{api.OK, pack.MaxDeep + 3}) {
		t.Errorf("a number in the deepest list: %v", tell(r))
	}
	r.Skip()
	if tell(r) != (told{api.ErrDeep, pack.MaxDeep + 3}) {
		t.Errorf("a list in the deepest list: %v", tell(r))
	}
	r = pack.Read(opens + "x(")
	play(r, opens)
	r.Int()
	r.Open()
	if tell(r) != (told{api.ErrForm, pack.MaxDeep}) {
		t.Errorf("one deeper behind an error: %v", tell(r))
	}
	many := strings.Repeat("(()())", 1000)
	r = pack.Read(many)
	for range 1000 {
		r.Skip()
	}
	if r.Done() != api.OK {
		t.Errorf("many lists: %v", tell(r))
	}
}

// P1.2.
func TestMore(t *testing.T) {
	for _, c := range []struct {
		s    string
		want bool
	}{
		{"", false},
		{")", false},
		{"(", true},
		{"i1;", true},
		{"0:", true},
		{"x", true},
		{"\x00", true},
	} {
		r := pack.Read(c.s)
		if r.More() != c.want || tell(r) != (told{api.OK, 0}) {
			t.Errorf("More of %q: %v, %v", c.s, r.More(), tell(r))
		}
	}
	r := pack.Read("(i1;i2;)")
	r.Open()
	sum := 0
	for r.More() {
		sum += r.Int()
	}
	r.Close()
	if sum != 3 || r.More() || r.Done() != api.OK {
		t.Errorf("a list: %d, %v", sum, tell(r))
	}
	r = pack.Read("xi1;")
	r.Int()
	if r.More() {
		t.Error("More behind an error")
	}
}

// P1.2.
func TestSkip(t *testing.T) {
	for _, c := range []struct {
		s    string
		want told
	}{
		{"i-7;i1;", told{api.OK, 4}},
		{"2:abc", told{api.OK, 4}},
		{"0:", told{api.OK, 2}},
		{"()x", told{api.OK, 2}},
		{"(i1;(2:()())0:)x", told{api.OK, 15}},
		{"", told{api.ErrEnd, 0}},
		{")", told{api.ErrForm, 0}},
		{"x", told{api.ErrForm, 0}},
		{"-1:a", told{api.ErrForm, 0}},
		{"i01;", told{api.ErrForm, 2}},
		{"(", told{api.ErrEnd, 1}},
		{"(i1;", told{api.ErrEnd, 4}},
		{"(i1;x)", told{api.ErrForm, 4}},
		{"((i)", told{api.ErrForm, 3}},
		// A text has at most as many bytes as s.
		{"4:ab", told{api.ErrEnd, 2}},
		{"5:ab", told{api.ErrBig, 1}},
		{"(i1;9:)", told{api.ErrBig, 5}},
	} {
		r := pack.Read(c.s)
		r.Skip()
		if tell(r) != c.want {
			t.Errorf("Skip of %q: %v, want %v", c.s, tell(r), c.want)
		}
	}
}

// P1.2.
func TestDone(t *testing.T) {
	r := pack.Read("")
	if r.Done() != api.OK || r.Done() != api.OK {
		t.Error("no bytes")
	}
	r = pack.Read("i1;i2;")
	r.Int()
	if r.Done() != api.ErrForm || r.Err() != api.ErrForm || r.At() != 3 {
		t.Errorf("bytes are left: %v", tell(r))
	}
	if r.Int() != 0 || tell(r) != (told{api.ErrForm, 3}) {
		t.Errorf("its error from then on: %v", tell(r))
	}
	r = pack.Read("(")
	r.Open()
	if r.Err() != api.OK || r.Done() != api.ErrForm || r.Err() != api.ErrForm {
		t.Errorf("a list is open: %v", tell(r))
	}
	r = pack.Read("i")
	r.Int()
	if r.Done() != api.ErrEnd || r.Err() != api.ErrEnd {
		t.Errorf("an error ahead: %v", tell(r))
	}
}

// P1.2: behind an error nothing more is taken, and the answers are empty.
func TestNothingBehindAnError(t *testing.T) {
	for _, spoil := range []func(r *pack.Reader){
		func(r *pack.Reader) { r.Close() },
		func(r *pack.Reader) { r.Text(9) },
		func(r *pack.Reader) { r.Done() },
	} {
		for _, s := range []string{"i1;", "(i1;)"} {
			r := pack.Read(s)
			spoil(r)
			want := tell(r)
			if want.err != api.ErrForm || want.at != 0 {
				t.Fatalf("%q isn't spoilt: %v", s, want)
			}
			r.Open()
			r.Skip()
			if r.Int() != 0 || r.Text(9) != "" || r.More() {
				t.Errorf("%q: an answer behind an error", s)
			}
			r.Close()
			if r.Done() != want.err || tell(r) != want {
				t.Errorf("%q: %v, want %v", s, tell(r), want)
			}
		}
	}
}

// P1.2: another thing follows where an error was, but isn't taken.
func TestErrorStays(t *testing.T) {
	r := pack.Read("i1;2:abi3;")
	if r.Int() != 1 || r.Text(1) != "" || r.Err() != api.ErrBig {
		t.Fatalf("%v", tell(r))
	}
	if r.Text(2) != "" || tell(r) != (told{api.ErrBig, 4}) {
		t.Errorf("%v", tell(r))
	}
}
