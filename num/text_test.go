package num_test

import (
	"math/big"
	"regexp"
	"strings"
	"testing"

	"scribe/num"
)

// P5.2: Text.
func TestText(t *testing.T) {
	for a, want := range map[num.Num]string{
		0:                    "0",
		1:                    "0.000001",
		-1:                   "-0.000001",
		10:                   "0.00001",
		-10:                  "-0.00001",
		100000:               "0.1",
		-100000:              "-0.1",
		500000:               "0.5",
		-500000:              "-0.5",
		999999:               "0.999999",
		-999999:              "-0.999999",
		120300:               "0.1203",
		1000000:              "1",
		-1000000:             "-1",
		1000001:              "1.000001",
		1000010:              "1.00001",
		1234567:              "1.234567",
		-1500000:             "-1.5",
		10000000:             "10",
		-10000000:            "-10",
		100000000:            "100",
		100500000:            "100.5",
		1000000000000:        "1000000",
		1000000000001:        "1000000.000001",
		num.Most:             "4611686018427.387903",
		-num.Most:            "-4611686018427.387903",
		num.Most - 3:         "4611686018427.3879",
		num.Most - 387903:    "4611686018427",
		387903 - num.Most:    "-4611686018427",
		4000000000000000000:  "4000000000000",
		-4000000000000100000: "-4000000000000.1",
	} {
		if got := a.Text(); got != want {
			t.Errorf("%d.Text(): %q, want %q", a, got, want)
		}
	}
}

var spelling = regexp.MustCompile(`^(0|-?[1-9][0-9]*|-?(0|[1-9][0-9]*)\.[0-9]{0,5}[1-9])$`)

// P5.2: Prefix(Text(a)) is a, and all of it, whatever stands around it; and no text is longer than it has to be.
func TestThereAndBack(t *testing.T) {
	row := numbers(4)
	l := edges()
	for range 30000 {
		l = append(l, row.num())
	}
	for _, a := range l {
		s := a.Text()
		if !spelling.MatchString(s) {
			t.Fatalf("%d.Text(): %q", a, s)
		}
		if got, n := num.Prefix(s); got != a || n != len(s) {
			t.Fatalf("Prefix(%q): %d, %d, want %d, %d", s, got, n, a, len(s))
		}
		if got, n := num.Prefix("\t" + s + "x"); got != a || n != len(s)+1 {
			t.Fatalf("Prefix of %q between others: %d, %d, want %d, %d", s, got, n, a, len(s)+1)
		}
		if got, ok := num.Looks(" " + s + "\n"); got != a || !ok {
			t.Fatalf("Looks at %q: %d, %v, want %d", s, got, ok, a)
		}
	}
}

// P5.2: Prefix.
func TestPrefix(t *testing.T) {
	const most = num.Most
	for s, want := range map[string]struct {
		n  num.Num
		at int
	}{
		" -1.50x": {-1500000, 6}, // the chapter's

		// There is none.
		"": {}, " ": {}, " \t\n": {}, "+": {}, "-": {}, " -": {}, ".": {}, "-.": {}, "+.": {}, " . ": {},
		"x": {}, "x1": {}, "- 1": {}, "+\t1": {}, "--1": {}, "+-1": {}, "-+1": {}, "..1": {}, ".x1": {}, ". 1": {}, "-x": {},
		"\r1": {}, "\v1": {}, "\f1": {}, "\x001": {}, "\u00a01": {}, "\u0661": {}, "\uff11": {}, ",1": {}, "e1": {}, "/": {}, ":": {},

		// Blanks and signs ahead.
		"0": {0, 1}, "7": {7000000, 1}, "12": {12000000, 2}, " 12": {12000000, 3}, "\t12": {12000000, 3}, "\n12": {12000000, 3},
		" \n\t \t12": {12000000, 7}, "+3": {3000000, 2}, "-3": {-3000000, 2}, " +3": {3000000, 3}, "\n-3": {-3000000, 3}, "-0": {0, 2}, "+0": {0, 2},
		"007": {7000000, 3}, "-007": {-7000000, 4}, "0123456789": {123456789000000, 10},

		// A full stop ahead of the digits, among and behind them.
		".5": {500000, 2}, "5.": {5000000, 2}, "-.5": {-500000, 3}, "-5.": {-5000000, 3}, "+.5": {500000, 3}, "1.5": {1500000, 3}, "-0.5": {-500000, 4},
		" 10.25": {10250000, 6}, "0.000001": {1, 8}, "-0.000001": {-1, 9}, "0.": {0, 2}, ".0": {0, 2}, "1.050": {1050000, 5}, "00.10": {100000, 5},

		// A second one.
		"1.2.3": {1200000, 3}, "1..2": {1000000, 2}, "5..": {5000000, 2}, ".5.": {500000, 2}, ".5.5": {500000, 2},

		// More than six places.
		"0.1234567": {123456, 9}, "-0.1234567": {-123456, 10}, "0.9999999": {999999, 9}, "-0.9999999": {-999999, 10}, "0.0000009": {0, 9}, "-0.0000009": {0, 10},
		"1.00000000001x": {1000000, 13}, ".1234560": {123456, 8}, "2.999999999999999999999999999999": {2999999, 32},

		// More digits than fit.
		"99999999999999999999":   {most, 20},
		"-99999999999999999999":  {-most, 21},
		"4611686018427.387903":   {most, 20},
		"4611686018427.387902":   {most - 1, 20},
		"-4611686018427.387902":  {1 - most, 21},
		"-4611686018427.387903":  {-most, 21},
		"4611686018427.387904":   {most, 20},
		"-4611686018427.387904":  {-most, 21},
		"4611686018427.3879039":  {most, 21},
		"4611686018427":          {4611686018427000000, 13},
		"4611686018428":          {most, 13},
		"-4611686018428":         {-most, 14},
		"4611686018427.4":        {most, 15},
		"9223372036854.775808":   {most, 20},
		"18446744073709.551616x": {most, 21},
		"18446744073709.551617":  {most, 21},
		"18446744073710":         {most, 14},
		"46116860184270000000":   {most, 20},
		"99999999999999999999.5": {most, 22},
		"99999999999999999999.":  {most, 21},

		// Other bytes behind.
		"12x": {12000000, 2}, "12 ": {12000000, 2}, "12\n": {12000000, 2}, "5.x": {5000000, 2}, "1e5": {1000000, 1}, "0x1": {0, 1}, "1-2": {1000000, 1}, "1+": {1000000, 1},
		"1 2": {1000000, 1}, "1,5": {1000000, 1}, "1/": {1000000, 1}, "1:": {1000000, 1}, "3\x00": {3000000, 1}, "3\xff": {3000000, 1}, "1. 5": {1000000, 2}, "1_0": {1000000, 1},
	} {
		if got, at := num.Prefix(s); got != want.n || at != want.at {
			t.Errorf("Prefix(%q): %d, %d, want %d, %d", s, got, at, want.n, want.at)
		}
	}
}

// P5.2: Looks; the number is Prefix's.
func TestLooks(t *testing.T) {
	for s, want := range map[string]struct {
		n  num.Num
		ok bool
	}{
		"12": {12000000, true}, " 12": {12000000, true}, "12 ": {12000000, true}, " 12 \n": {12000000, true}, "\t\n 12\n\t ": {12000000, true}, " -1.50\t": {-1500000, true},
		"+.5": {500000, true}, "5. ": {5000000, true}, "0": {0, true}, " -0 ": {0, true}, "0.1234567 ": {123456, true}, "-99999999999999999999 ": {-num.Most, true},
		"": {}, " ": {}, "\n\t": {}, "+": {}, "-": {}, ".": {}, "x": {}, " . ": {}, "- 1": {}, "\r1": {},
		"12x": {12000000, false}, "0x1": {0, false}, "1e5": {1000000, false}, "1 2": {1000000, false}, "1.2.3": {1200000, false}, "12 x": {12000000, false}, "12\r": {12000000, false},
		"12\v": {12000000, false}, "12\x00": {12000000, false}, "12\u00a0": {12000000, false}, "5..": {5000000, false}, "1-": {1000000, false}, " 1 - ": {1000000, false}, "-3 .": {-3000000, false},
	} {
		if got, ok := num.Looks(s); got != want.n || ok != want.ok {
			t.Errorf("Looks(%q): %d, %v, want %d, %v", s, got, ok, want.n, want.ok)
		}
	}
}

var beginning = regexp.MustCompile(`^[ \t\n]*([+-]?)(([0-9]*)\.([0-9]+)|[0-9]+\.?)`)

// prefix is the chapter's words on Prefix, by a pattern and by exact numbers.
func prefix(s string) (num.Num, int) {
	m := beginning.FindStringSubmatch(s)
	if m == nil {
		return 0, 0
	}
	places := m[4]
	if len(places) > 6 {
		places = places[:6]
	}
	ahead := m[3]
	if m[4] == "" {
		ahead = strings.TrimSuffix(m[2], ".")
	}
	x, _ := new(big.Int).SetString(ahead+places+strings.Repeat("0", 6-len(places)), 10)
	if m[1] == "-" {
		x.Neg(x)
	}
	return bounded(x), len(m[0])
}

// P5.2: texts of the bytes that matter, of each length.
func TestPrefixOfAnyText(t *testing.T) {
	const signs = " \t\n+-..0123456789x9"
	row := numbers(5)
	for i := range 200000 {
		b := make([]byte, row.next(4+i%28))
		for j := range b {
			b[j] = signs[row.next(len(signs))]
			if i%3 == 0 && j > 1 { // texts with many digits too
				b[j] = "0123456789."[row.next(10+j%2)]
			}
		}
		s := string(b)
		want, at := prefix(s)
		if got, n := num.Prefix(s); got != want || n != at {
			t.Fatalf("Prefix(%q): %d, %d, want %d, %d", s, got, n, want, at)
		}
		wantOk := at > 0 && strings.Trim(s[at:], " \t\n") == ""
		if got, ok := num.Looks(s); got != want || ok != wantOk {
			t.Fatalf("Looks(%q): %d, %v, want %d, %v", s, got, ok, want, wantOk)
		}
	}
}

// P5.2: long texts.
func TestPrefixOfLongTexts(t *testing.T) {
	const many = 1 << 20
	noughts := strings.Repeat("0", many)
	for _, c := range []struct {
		s    string
		want num.Num
	}{
		{noughts + "12", 12000000},
		{"-" + noughts + ".5", -500000},
		{"0." + noughts + "9", 0},
		{"1." + strings.Repeat("9", many), 1999999},
		{strings.Repeat("9", many), num.Most},
		{"-1" + noughts, -num.Most},
		{strings.Repeat(" ", many) + "7", 7000000},
	} {
		if got, n := num.Prefix(c.s); got != c.want || n != len(c.s) {
			t.Errorf("Prefix of %d bytes %.5q..: %d, %d, want %d", len(c.s), c.s, got, n, c.want)
		}
		if got, ok := num.Looks(c.s + " "); got != c.want || !ok {
			t.Errorf("Looks at %d bytes %.5q..: %d, %v, want %d", len(c.s), c.s, got, ok, c.want)
		}
	}
}
