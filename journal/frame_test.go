package journal_test

import (
	"fmt"
	"hash/adler32"
	"math"
	"math/big"
	"regexp"
	"strings"
	"testing"
	"unsafe"

	"scribe/api"
	"scribe/journal"
)

// texts are some of each sort: none, few bytes, bytes 10 and 0, what looks like a frame, and many bytes.
func texts() []string {
	every := make([]byte, 256)
	for i := range every {
		every[i] = byte(i)
	}
	return []string{"", "a", "ab", "0", " ", "\n", "\n\n", "\x00", "\xff\xfe", "a\nb\n", "scribe 1 ",
		"scribe 1 2 012600c4\nab", string(every), strings.Repeat("0123456789", 100), strings.Repeat("\xff", 70000)}
}

// P4.1: a frame, by a sum that isn't the program's own.
func TestFrame(t *testing.T) {
	if got := journal.Frame("ab"); got != "scribe 1 2 012600c4\nab" {
		t.Errorf("Frame(ab): %q", got)
	}
	if got := journal.Frame(""); got != "scribe 1 0 00000001\n" {
		t.Errorf("Frame of nothing: %q", got)
	}
	for _, s := range texts() {
		want := fmt.Sprintf("scribe 1 %d %08x\n%s", len(s), adler32.Checksum([]byte(s)), s)
		if got := journal.Frame(s); got != want {
			t.Errorf("Frame(%.40q): %.60q, want %.60q", s, got, want)
		}
		if got, e := journal.Open(want); got != s || e != api.OK {
			t.Errorf("Open of the frame of %.40q: %.40q, %d", s, got, e)
		}
	}
	if journal.File != "journal" || journal.Temp != "journal.new" {
		t.Error("the names")
	}
}

// opened is the chapter's words on Open, one by one.
func opened(s string) (string, api.Errno) {
	if n := len("scribe 1 "); len(s) < n && s == "scribe 1 "[:len(s)] {
		return "", api.ErrEnd
	} else if len(s) < n || s[:n] != "scribe 1 " {
		return "", api.ErrForm
	}
	end := strings.IndexByte(s, '\n')
	if end < 0 {
		return "", api.ErrEnd
	}
	line := regexp.MustCompile(`^(0|[1-9][0-9]*) ((?s).*)$`).FindStringSubmatch(s[len("scribe 1 "):end])
	if line == nil {
		return "", api.ErrForm
	}
	told, _ := new(big.Int).SetString(line[1], 10)
	if told.Cmp(big.NewInt(math.MaxInt)) > 0 {
		return "", api.ErrForm
	}
	text := s[end+1:]
	switch big.NewInt(int64(len(text))).Cmp(told) {
	case -1:
		return "", api.ErrEnd
	case 1:
		return "", api.ErrForm
	}
	if !regexp.MustCompile(`^[0-9a-f]{8}$`).MatchString(line[2]) {
		return "", api.ErrForm
	}
	if line[2] != fmt.Sprintf("%08x", adler32.Checksum([]byte(text))) {
		return "", api.ErrSum
	}
	return text, api.OK
}

// P4.1: each way in which bytes aren't a frame, and which error is the first.
func TestOpenErrors(t *testing.T) {
	for _, x := range []struct {
		s    string
		want api.Errno
	}{
		{"scribe 1 2 012600c4\nab", api.OK},
		{"", api.ErrEnd},
		{"s", api.ErrEnd},
		{"scribe 1", api.ErrEnd},
		{"scribe 1 ", api.ErrEnd},
		{"x", api.ErrForm},
		{"scribe 2", api.ErrForm},
		{"scribe 2 2 012600c4\nab", api.ErrForm},
		{"scribe 12 012600c4\nab", api.ErrForm},
		{"Scribe 1 2 012600c4\nab", api.ErrForm},
		{" scribe 1 2 012600c4\nab", api.ErrForm},
		{"\n", api.ErrForm},
		{"scribe\n1 2 012600c4\nab", api.ErrForm},
		{"scribe 1 x", api.ErrEnd},
		{"scribe 1 02 012600c4", api.ErrEnd},
		{"scribe 1 2 012600c4", api.ErrEnd},
		{"scribe 1 \n", api.ErrForm},
		{"scribe 1 2\nab", api.ErrForm},
		{"scribe 1 2\n", api.ErrForm},
		{"scribe 1 02 012600c4\nab", api.ErrForm},
		{"scribe 1 00 00000001\n", api.ErrForm},
		{"scribe 1 +2 012600c4\nab", api.ErrForm},
		{"scribe 1 -0 00000001\n", api.ErrForm},
		{"scribe 1 -2 012600c4\nab", api.ErrForm},
		{"scribe 1 2_0 012600c4\nab", api.ErrForm},
		{"scribe 1 0x2 012600c4\nab", api.ErrForm},
		{"scribe 1  2 012600c4\nab", api.ErrForm},
		{"scribe 1  012600c4\nab", api.ErrForm},
		{"scribe 1 2\t012600c4\nab", api.ErrForm},
		{"scribe 1 a 012600c4\nab", api.ErrForm},
		{"scribe 1 9223372036854775807 012600c4\nab", api.ErrEnd},
		{"scribe 1 9223372036854775808 012600c4\nab", api.ErrForm},
		{"scribe 1 18446744073709551618 012600c4\nab", api.ErrForm},
		{"scribe 1 99999999999999999999999999 012600c4\nab", api.ErrForm},
		{"scribe 1 2 012600c4\na", api.ErrEnd},
		{"scribe 1 2 012600c4\n", api.ErrEnd},
		{"scribe 1 2 \na", api.ErrEnd},
		{"scribe 1 2 xyz\na", api.ErrEnd},
		{"scribe 1 2 012600c4\nabc", api.ErrForm},
		{"scribe 1 2 012600c4\nab\n", api.ErrForm},
		{"scribe 1 2 \nab", api.ErrForm},
		{"scribe 1 2 012600C4\nab", api.ErrForm},
		{"scribe 1 2 12600c4\nab", api.ErrForm},
		{"scribe 1 2 0012600c4\nab", api.ErrForm},
		{"scribe 1 2 012600c4 \nab", api.ErrForm},
		{"scribe 1 2  012600c4\nab", api.ErrForm},
		{"scribe 1 2 012600c4\r\nab", api.ErrForm},
		{"scribe 1 2 012600c5\nab", api.ErrSum},
		{"scribe 1 2 012600c4\nbb", api.ErrSum},
		{"scribe 1 2 012600c4\nba", api.ErrSum},
		{"scribe 1 0 00000001\n", api.OK},
		{"scribe 1 0 00000000\n", api.ErrSum},
	} {
		got, e := journal.Open(x.s)
		if e != x.want || e != api.OK && got != "" {
			t.Errorf("Open(%q): %q, %d, want %d", x.s, got, e, x.want)
		}
		if want, f := opened(x.s); got != want || e != f {
			t.Errorf("Open(%q): %q, %d; the model: %q, %d", x.s, got, e, want, f)
		}
	}
}

// P4.1: a frame that is cut off at each place.
func TestOpenOfFramesCutOff(t *testing.T) {
	for _, s := range texts() {
		f := journal.Frame(s)
		for n := range len(f) {
			if n > 300 && n < len(f)-3 && n%1009 != 0 {
				continue
			}
			if got, e := journal.Open(f[:n]); got != "" || e != api.ErrEnd {
				t.Errorf("%d bytes of %.40q: %.40q, %d", n, f, got, e)
			}
		}
	}
}

// P4.1: a frame with a byte changed at each place, to each other byte: never a text.
func TestOpenOfFramesWithAByteChanged(t *testing.T) {
	for _, s := range texts() {
		if len(s) > 300 {
			continue
		}
		f := []byte(journal.Frame(s))
		for i, was := range f {
			for c := range 256 {
				if f[i] = byte(c); f[i] == was {
					continue
				}
				got, e := journal.Open(string(f))
				if _, want := opened(string(f)); got != "" || e != want || e == api.OK {
					t.Fatalf("%q: %q, %d, want %d", f, got, e, want)
				}
			}
			f[i] = was
		}
	}
}

// P4.1: a frame with more bytes behind it, in front of it, and with one left out at each place.
func TestOpenOfOtherFrames(t *testing.T) {
	for _, s := range texts() {
		f := journal.Frame(s)
		for c := range 256 {
			more := string([]byte{byte(c)})
			if got, e := journal.Open(f + more); got != "" || e != api.ErrForm {
				t.Errorf("%.40q and %q behind: %d", f, more, e)
			}
			if got, e := journal.Open(more + f); got != "" || e != api.ErrForm {
				t.Errorf("%.40q and %q in front: %d", f, more, e)
			}
		}
		if got, e := journal.Open(f + f); got != "" || e != api.ErrForm {
			t.Errorf("%.40q twice: %d", f, e)
		}
		for i := range min(len(f), 300) {
			got, e := journal.Open(f[:i] + f[i+1:])
			if want, w := opened(f[:i] + f[i+1:]); got != want || e != w || e == api.OK {
				t.Errorf("%.40q without byte %d: %.40q, %d, want %d", f, i, got, e, w)
			}
		}
	}
}

// P4.1: Open of any bytes: each text of few bytes of a frame's behind the head, and of the head's.
func TestOpenOfAnyBytes(t *testing.T) {
	var grow func(s string, n int)
	grow = func(s string, n int) {
		for _, whole := range []string{s, "scribe 1 " + s, "scribe 1 " + s + "00000001\n", "scribe 1 1 " + s} {
			got, e := journal.Open(whole)
			if want, w := opened(whole); got != want || e != w {
				t.Fatalf("Open(%q): %q, %d, want %q, %d", whole, got, e, want, w)
			}
		}
		for _, c := range "01- \na" {
			if n > 0 {
				grow(s+string(c), n-1)
			}
		}
	}
	grow("", 5)
}

// K3: the text that is answered is new memory.
func TestOpenMemory(t *testing.T) {
	f := journal.Frame("abc")
	a, _ := journal.Open(f)
	b, _ := journal.Open(f)
	if unsafe.StringData(a) == unsafe.StringData(b) || unsafe.StringData(a) == unsafe.StringData(f[len(f)-3:]) {
		t.Error("it is the frame's")
	}
}
