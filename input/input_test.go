package input_test

import (
	"math"
	"math/rand"
	"regexp"
	"slices"
	"strings"
	"testing"
	"unsafe"

	"scribe/api"
	"scribe/input"
)

// apart: do two texts share no memory?
func apart(a, b string) bool {
	from, at := uintptr(unsafe.Pointer(unsafe.StringData(b))), uintptr(unsafe.Pointer(unsafe.StringData(a)))
	return a == "" || b == "" || at+uintptr(len(a)) <= from || at >= from+uintptr(len(b))
}

// checkNext holds Next at a place against the chapter's words.
func checkNext(t *testing.T, s string, at int) {
	t.Helper()
	want, next, ok := "", at, at >= 0 && at < len(s)
	if ok {
		for next < len(s) && s[next] != 10 {
			next++
		}
		want = s[at:next]
		if next < len(s) {
			next++
		}
	}
	got, gotNext, gotOK := input.Next(s, at)
	if got != want || gotNext != next || gotOK != ok {
		t.Fatalf("Next(%q, %d) = %q, %d, %v, want %q, %d, %v", s, at, got, gotNext, gotOK, want, next, ok)
	}
	if !apart(got, s) {
		t.Fatalf("Next(%q, %d): the record lies in the text", s, at)
	}
}

// P16.1: Next at each place of texts, at their ends, and beyond them.
func TestNext(t *testing.T) {
	for _, x := range []struct {
		s    string
		at   int
		want string
		next int
		ok   bool
	}{
		{"ab\ncd", 0, "ab", 3, true}, {"ab\ncd", 1, "b", 3, true}, {"ab\ncd", 2, "", 3, true}, {"ab\ncd", 3, "cd", 5, true}, {"ab\ncd", 4, "d", 5, true}, {"ab\ncd", 5, "", 5, false}, {"ab\ncd", 6, "", 6, false}, {"ab\ncd", -1, "", -1, false},
		{"ab\n", 0, "ab", 3, true}, {"ab\n", 3, "", 3, false}, {"\n", 0, "", 1, true}, {"\n", 1, "", 1, false}, {"\n\n\n", 0, "", 1, true}, {"\n\n\n", 2, "", 3, true}, {"", 0, "", 0, false}, {"", -1, "", -1, false}, {"", 1, "", 1, false}, {"a\r\nb", 0, "a\r", 3, true}, {"\x00\xff", 0, "\x00\xff", 2, true},
	} {
		got, next, ok := input.Next(x.s, x.at)
		if got != x.want || next != x.next || ok != x.ok {
			t.Errorf("Next(%q, %d) = %q, %d, %v", x.s, x.at, got, next, ok)
		}
	}
	texts := []string{strings.Repeat("x", 5000), strings.Repeat("x", 4000) + "\n" + strings.Repeat("\n", 100), "\xff\n\x00", "a\u0085b\u2028c\vd\re\fg"}
	for n := range 256 * 3 {
		s := ""
		for ; n > 0; n /= 3 {
			s += string("\nab"[n%3])
		}
		texts = append(texts, s)
	}
	for _, s := range texts {
		for at := -2; at < len(s)+3; at++ {
			checkNext(t, s, at)
		}
		for _, at := range []int{math.MinInt, math.MinInt + 1, -1 << 32, 1 << 32, math.MaxInt} {
			checkNext(t, s, at)
		}
	}
}

// P16.3: a text's records with a byte 10 behind each are the text, if it ends with one; else the text with one more.
func TestRecordsAreTheText(t *testing.T) {
	r := rand.New(rand.NewSource(1))
	for range 20000 {
		b := make([]byte, r.Intn(30))
		for i := range b {
			b[i] = "\n\n\nab \t\x00\xff"[r.Intn(9)]
		}
		s := string(b)
		out, at := "", 0
		for {
			record, next, ok := input.Next(s, at)
			if !ok {
				break
			}
			if next <= at || strings.Contains(record, "\n") {
				t.Fatalf("Next(%q, %d) = %q, %d", s, at, record, next)
			}
			out += record + "\n"
			at = next
		}
		if at != len(s) || out != s && (out != s+"\n" || strings.HasSuffix(s, "\n")) {
			t.Fatalf("the records of %q are %q", s, out)
		}
	}
}

// P16.1: fields by what parts them.
func TestSplit(t *testing.T) {
	for _, x := range []struct {
		s, sep string
		re     bool
		want   []string
	}{
		{" a  b ", " ", false, []string{"a", "b"}}, {"a", " ", false, []string{"a"}}, {" \t\n", " ", false, nil}, {"\na\tb \n c\t", " ", false, []string{"a", "b", "c"}}, {"a\rb\vc\fd", " ", false, []string{"a\rb\vc\fd"}}, {"a\u00a0b\u2003c\u0085d", " ", false, []string{"a\u00a0b\u2003c\u0085d"}}, {"\xff \xfe", " ", false, []string{"\xff", "\xfe"}},
		{"a,,b", ",", false, []string{"a", "", "b"}}, {",", ",", false, []string{"", ""}}, {",a,", ",", false, []string{"", "a", ""}}, {"a", ",", false, []string{"a"}}, {"a b\tc", "\t", false, []string{"a b", "c"}}, {"a\nb", "\n", false, []string{"a", "b"}},
		{"a.b", ".", false, []string{"a", "b"}}, {"a|b", "|", false, []string{"a", "b"}}, {"a*b", "*", false, []string{"a", "b"}}, {"a(b", "(", false, []string{"a", "b"}}, {"a\\b", "\\", false, []string{"a", "b"}}, {"a[b", "[", false, []string{"a", "b"}}, {"a^b$c", "^", false, []string{"a", "b$c"}}, {"axbXc", "x", false, []string{"a", "bXc"}}, {"a\xffb", "\xff", false, []string{"a", "b"}}, {"a\u00e9b", "\xa9", false, []string{"a\xc3", "b"}}, {"a\x00b", "\x00", false, []string{"a", "b"}},
		{" a  b ", " ", true, []string{"", "a", "", "b", ""}}, {"a\tb c", " ", true, []string{"a\tb", "c"}}, {"axb", "x", true, []string{"a", "b"}}, {"a.b", ".", true, []string{"", "", "", ""}}, {"a|b", "|", true, []string{"a|b"}}, {"ab", "^", true, []string{"ab"}}, {"ab", "$", true, []string{"ab"}},
		{"a1b22c", "[0-9]+", false, []string{"a", "b", "c"}}, {"a1b22c", "[0-9]+", true, []string{"a", "b", "c"}}, {"a, b,c", ", *", false, []string{"a", "b", "c"}}, {"aXYbX", "XY|X", false, []string{"a", "b", ""}}, {"aab", "^a", false, []string{"", "ab"}}, {"abb", "b$", true, []string{"ab", ""}}, {"a  b", "  ", false, []string{"a", "b"}}, {" a b", "  ", false, []string{" a b"}}, {"a\tb", "\\t", false, []string{"a", "b"}}, {"a b", "[ ]", false, []string{"a", "b"}},
		{"abc", "x*", true, []string{"abc"}}, {"abc", "x*", false, []string{"abc"}}, {"axxbc", "x*", false, []string{"a", "bc"}}, {"abc", "()", false, []string{"abc"}}, {"abc", "(x?)|y*", true, []string{"abc"}}, {"abc", "b?", false, []string{"a", "c"}}, {"bb", "b*", false, []string{"", ""}}, {"ab", "^$", false, []string{"ab"}},
		{"ab", "", false, []string{"ab"}}, {"ab", "", true, []string{"ab"}}, {" a b ", "", false, []string{" a b "}},
		{"", " ", false, nil}, {"", "", false, nil}, {"", "", true, nil}, {"", ",", false, nil}, {"", "ab", false, nil}, {"", " ", true, nil}, {"", "x*", true, nil}, {"", "((", false, nil}, {"", "(", true, nil}, {"", strings.Repeat("a", 301), true, nil},
	} {
		got, e := input.Split(x.s, x.sep, x.re)
		if e != api.OK || !slices.Equal(got, x.want) {
			t.Errorf("Split(%q, %q, %v) = %q, %d, want %q", x.s, x.sep, x.re, got, e, x.want)
		}
	}
}

// P16.1: what has to be a pattern and isn't one.
func TestNoPattern(t *testing.T) {
	for _, sep := range []string{"((", "a(", "a)", "[a", "[z-a]", "*a", "a|*", "a\\", "\\z", "++", strings.Repeat("a", 301), strings.Repeat("(", 21) + strings.Repeat(")", 21), " *)", "  )"} {
		for _, re := range []bool{false, true} {
			if l, e := input.Split("a", sep, re); len(l) != 0 || e != api.ErrRun {
				t.Errorf("Split(a, %.30q, %v) = %q, %d", sep, re, l, e)
			}
			if l, e := input.Split("", sep, re); len(l) != 0 || e != api.OK {
				t.Errorf("Split of nothing by %.30q, %v = %q, %d", sep, re, l, e)
			}
		}
	}
	for c := range 256 {
		sep := string([]byte{byte(c)})
		bad := strings.Contains("()[*+?\\", sep)
		l, e := input.Split("a"+sep+"b", sep, true)
		if (e == api.ErrRun) != bad || bad && len(l) != 0 {
			t.Errorf("Split by the pattern %q = %q, %d", sep, l, e)
		}
		if l, e := input.Split("a"+sep+"b", sep, false); e != api.OK || sep != "a" && sep != "b" && !slices.Equal(l, []string{"a", "b"}) {
			t.Errorf("Split by %q = %q, %d", sep, l, e)
		}
	}
	// The pattern is looked at ahead of how many fields there are.
	if l, e := input.Split(strings.Repeat("a ", 600), "((", false); len(l) != 0 || e != api.ErrRun {
		t.Errorf("Split: %d fields, %d", len(l), e)
	}
}

// P16.1: 500 fields, and one more, by each kind of what parts them.
func TestMostFields(t *testing.T) {
	for _, x := range []struct {
		unit, sep string
		re        bool
		more      int // fields beyond the units
	}{{"a ", " ", false, 0}, {" \ta", " ", false, 0}, {"a,", ",", false, 1}, {",", ",", false, 1}, {"a,", ",", true, 1}, {"ab12", "[0-9]+", false, 1}, {"..", "..", true, 1}} {
		for n := 490; n < 510; n++ {
			l, e := input.Split(strings.Repeat(x.unit, n), x.sep, x.re)
			want, wantE := n+x.more, api.OK
			if want > 500 {
				want, wantE = 0, api.ErrSize
			}
			if len(l) != want || e != wantE {
				t.Errorf("Split of %d times %q by %q: %d fields, %d", n, x.unit, x.sep, len(l), e)
			}
		}
	}
	if l, e := input.Split(strings.Repeat("a ", 2000), "", false); len(l) != 1 || e != api.OK {
		t.Errorf("Split by nothing: %d fields, %d", len(l), e)
	}
}

// model is the chapter's words on fields; patterns are package regexp's.
func model(s, sep string, re bool) ([]string, bool) {
	if s == "" {
		return nil, true
	}
	switch {
	case sep == " " && !re:
		var l []string
		run := ""
		for _, c := range []byte(s + " ") {
			if c != 32 && c != 9 && c != 10 {
				run += string([]byte{c})
				continue
			}
			if run != "" {
				l = append(l, run)
			}
			run = ""
		}
		return l, len(l) <= 500
	case sep == "":
		return []string{s}, true
	case len(sep) == 1 && !re:
		l := []string{""}
		for _, c := range []byte(s) {
			if c == sep[0] {
				l = append(l, "")
				continue
			}
			l[len(l)-1] += string([]byte{c})
		}
		return l, len(l) <= 500
	}
	p := regexp.MustCompile("(?s)" + sep)
	p.Longest()
	var l []string
	from := 0
	for _, m := range p.FindAllStringIndex(s, -1) {
		if m[0] < m[1] {
			l = append(l, s[from:m[0]])
			from = m[1]
		}
	}
	l = append(l, s[from:])
	return l, len(l) <= 500
}

// P16.1, P16.3: Split of random texts against the chapter's words; with a field's parting byte between them, fields are the text.
func TestSplitAgainstWords(t *testing.T) {
	r := rand.New(rand.NewSource(2))
	seps := []string{" ", "", ",", "a", ".", "\t", "\n", "|", "a*", "a+", "ab|b", "[ ,]", "(a|b)+", " +", "a?b?", "^a", "b$", "..", "[^a]", ", *", "()"}
	for range 60000 {
		b := make([]byte, r.Intn(14))
		for i := range b {
			b[i] = "aaab,, .|\t\n"[r.Intn(11)]
		}
		s, sep, re := string(b), seps[r.Intn(len(seps))], r.Intn(2) == 0
		want, ok := model(s, sep, re)
		got, e := input.Split(s, sep, re)
		if !ok || e != api.OK || !slices.Equal(got, want) {
			t.Fatalf("Split(%q, %q, %v) = %q, %d, want %q", s, sep, re, got, e, want)
		}
		if again, _ := input.Split(s, sep, re); !slices.Equal(got, again) {
			t.Fatalf("Split(%q, %q, %v) = %q, and then %q", s, sep, re, got, again)
		}
		if len(sep) == 1 && sep != " " && !re && s != "" && strings.Join(got, sep) != s {
			t.Fatalf("Split(%q, %q) = %q", s, sep, got)
		}
		for _, field := range got {
			if !apart(field, s) {
				t.Fatalf("Split(%q, %q, %v): a field lies in the text", s, sep, re)
			}
		}
	}
	for range 3000 {
		// Each byte parts, and is parted.
		b := make([]byte, 1+r.Intn(300))
		for i := range b {
			b[i] = byte(r.Intn(256))
		}
		sep := string([]byte{b[r.Intn(len(b))]})
		if sep == " " {
			continue
		}
		l, e := input.Split(string(b), sep, false)
		if e != api.OK || strings.Join(l, sep) != string(b) || len(l) != strings.Count(string(b), sep)+1 {
			t.Fatalf("Split(%q, %q) = %q, %d", b, sep, l, e)
		}
	}
}
