package script_test

import (
	"slices"
	"strings"
	"testing"
	"unsafe"

	"scribe/script"
)

// numbered is a line with its number.
type numbered struct {
	number int
	line   string
}

func linesOf(s string) []numbered {
	var l []numbered
	for number, line := range script.Lines(s) {
		l = append(l, numbered{number, line})
	}
	return l
}

// P20.1: lines that say something, with their numbers.
func TestLines(t *testing.T) {
	for _, x := range []struct {
		text string
		want []numbered
	}{
		{"", nil},
		{"\n", nil},
		{"\n\n\n\n", nil},
		{"a", []numbered{{1, "a"}}},
		{"a\n", []numbered{{1, "a"}}},
		{"a\n\n", []numbered{{1, "a"}}},
		{"\na", []numbered{{2, "a"}}},
		{"\n\n\na\n", []numbered{{4, "a"}}},
		{"a\nb", []numbered{{1, "a"}, {2, "b"}}},
		{"a\n\n\nb\nc\n", []numbered{{1, "a"}, {4, "b"}, {5, "c"}}},
		{"#", nil},
		{"#\n", nil},
		{"# a\nb\n#c", []numbered{{2, "b"}}},
		{"##\n#\n\nb", []numbered{{4, "b"}}},
		{"a # b\na#\n #\n\t# c", []numbered{{1, "a # b"}, {2, "a#"}, {3, " #"}, {4, "\t# c"}}},
		{" ", []numbered{{1, " "}}},
		{" \n  \n\t\n\r\n", []numbered{{1, " "}, {2, "  "}, {3, "\t"}, {4, "\r"}}},
		{"a\r\n#\r\nb\r", []numbered{{1, "a\r"}, {3, "b\r"}}},
		{"a\rb\vc\fd\u0085e\u2028f\x00g", []numbered{{1, "a\rb\vc\fd\u0085e\u2028f\x00g"}}},
		{"\xff\n\x00\n\xc3", []numbered{{1, "\xff"}, {2, "\x00"}, {3, "\xc3"}}},
		{"no step\nrun 1", []numbered{{1, "no step"}, {2, "run 1"}}},
	} {
		if got := linesOf(x.text); !slices.Equal(got, x.want) {
			t.Errorf("Lines(%q): %v, want %v", x.text, got, x.want)
		}
	}
}

// cutByHand: what Lines is to answer, byte by byte.
func cutByHand(s string) []numbered {
	var l []numbered
	line, number := "", 1
	for i := 0; i <= len(s); i++ {
		if i < len(s) && s[i] != 10 {
			line += s[i : i+1]
			continue
		}
		if len(line) > 0 && line[0] != '#' {
			l = append(l, numbered{number, line})
		}
		line, number = "", number+1
	}
	return l
}

// P20.1: all texts of few bytes.
func TestLinesOfShortTexts(t *testing.T) {
	texts := []string{""}
	for range 7 {
		var longer []string
		for _, s := range texts {
			if got, want := linesOf(s), cutByHand(s); !slices.Equal(got, want) {
				t.Fatalf("Lines(%q): %v, want %v", s, got, want)
			}
			for _, c := range []string{"\n", "#", "a", " "} {
				longer = append(longer, s+c)
			}
		}
		texts = longer
	}
}

// P20.1, K7: an iterator is left at any line, and gone through again, also within itself.
func TestLinesAgain(t *testing.T) {
	const text = "\na\n#\nb\n\nc"
	want := []numbered{{2, "a"}, {4, "b"}, {6, "c"}}
	it := script.Lines(text)
	for leave := range 4 {
		var got []numbered
		for number, line := range it {
			if got = append(got, numbered{number, line}); len(got) > leave {
				break
			}
			for range it {
				break
			}
		}
		if n := min(leave+1, 3); !slices.Equal(got, want[:n]) {
			t.Errorf("left at %d: %v", leave, got)
		}
	}
	for range 2 {
		var got []numbered
		for number, line := range it {
			got = append(got, numbered{number, line})
		}
		if !slices.Equal(got, want) {
			t.Errorf("again: %v", got)
		}
	}
}

func within(part, whole string) bool {
	at, from := uintptr(unsafe.Pointer(unsafe.StringData(part))), uintptr(unsafe.Pointer(unsafe.StringData(whole)))
	return from <= at && at < from+uintptr(len(whole))
}

// P2: what Lines and Parse answer lies in memory of its own (K3).
func TestOwnTexts(t *testing.T) {
	text := strings.Clone("spoil ab\nspoil cd")
	it := script.Lines(text)
	var seen []string
	for range 2 {
		for _, line := range it {
			seen = append(seen, line)
		}
		l, _, _ := script.Parse(text)
		for _, x := range l {
			seen = append(seen, x.Text)
		}
	}
	for i, s := range seen {
		for _, other := range append([]string{text}, seen[:i]...) {
			if within(s, other) {
				t.Errorf("text %d, %q, lies in %q", i, s, other)
			}
		}
	}
}
