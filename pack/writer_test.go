package pack_test

import (
	"math"
	"strconv"
	"strings"
	"testing"

	"scribe/pack"
)

// written is what one call writes into a new Writer.
func written(call func(w *pack.Writer)) string {
	var w pack.Writer
	call(&w)
	return w.Bytes()
}

// P1.1.
func TestIntIsWritten(t *testing.T) {
	for _, c := range []struct {
		n    int
		want string
	}{
		{0, "i0;"},
		{1, "i1;"},
		{-1, "i-1;"},
		{9, "i9;"},
		{10, "i10;"},
		{-12, "i-12;"},
		{1000000, "i1000000;"},
		{math.MaxInt64, "i9223372036854775807;"},
		{math.MinInt64, "i-9223372036854775808;"},
	} {
		if got := written(func(w *pack.Writer) { w.Int(c.n) }); got != c.want {
			t.Errorf("Int(%d): %q, want %q", c.n, got, c.want)
		}
	}
}

// P1.1.
func TestTextIsWritten(t *testing.T) {
	for _, c := range []struct{ s, want string }{
		{"", "0:"},
		{"ab", "2:ab"},
		{"a:b;(i1;)", "9:a:b;(i1;)"},
		{"123456789", "9:123456789"},
		{"1234567890", "10:1234567890"},
		{"\x00\xff\n", "3:\x00\xff\n"},
		{"ä", "2:ä"},
	} {
		if got := written(func(w *pack.Writer) { w.Text(c.s) }); got != c.want {
			t.Errorf("Text(%q): %q, want %q", c.s, got, c.want)
		}
	}
	long := strings.Repeat("x", 123456)
	if got := written(func(w *pack.Writer) { w.Text(long) }); got != "123456:"+long {
		t.Error("a long text")
	}
}

// P1.1: nothing is asked of the order of Open and Close.
func TestSignsAreWrittenInAnyOrder(t *testing.T) {
	got := written(func(w *pack.Writer) {
		w.Close()
		w.Open()
		w.Int(-12)
		w.Open()
		w.Text("ab")
		w.Close()
		w.Close()
		w.Close()
		w.Open()
	})
	if got != ")(i-12;(2:ab)))(" {
		t.Errorf("%q", got)
	}
	deep := written(func(w *pack.Writer) {
		for range 1000 {
			w.Open()
		}
	})
	if deep != strings.Repeat("(", 1000) {
		t.Error("more open lists than a Reader takes")
	}
}

// P1.1: the chapter's example.
func TestExampleIsWritten(t *testing.T) {
	got := written(func(w *pack.Writer) {
		w.Int(-12)
		w.Text("ab")
		w.Open()
		w.Close()
	})
	if got != "i-12;2:ab()" {
		t.Errorf("%q", got)
	}
}

// P1.1, K3, K4: Bytes answers what was gathered so far, again and again, and what it answered stays.
func TestBytesBetweenCalls(t *testing.T) {
	var w pack.Writer
	if w.Bytes() != "" {
		t.Errorf("the zero Writer: %q", w.Bytes())
	}
	want := ""
	var answers []string
	for i := range 300 {
		w.Int(i)
		want += "i" + strconv.Itoa(i) + ";"
		answers = append(answers, w.Bytes())
		if w.Bytes() != want {
			t.Fatalf("behind Int(%d): %q", i, w.Bytes())
		}
	}
	for i, a := range answers {
		if !strings.HasPrefix(want, a) || !strings.HasSuffix(a, "i"+strconv.Itoa(i)+";") {
			t.Fatalf("answer %d is another now: %q", i, a)
		}
	}
}
