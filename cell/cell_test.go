package cell_test

import (
	"math"
	"strings"
	"testing"
	"unsafe"

	"scribe/cell"
	"scribe/num"
)

const most = num.Most

// texts are some of each sort: numbers, what begins with one, and others.
func texts() []string {
	return []string{"", " ", "0", "-0", "0.0", " 0 ", "00", "1", "1.0", "+1", " 1", "1 ", "01", "\t1\n", "9", "10", " 10 ", "2", "-1", "-2", "-10", "-.5", ".5", "0.5", "5.", "1e5",
		"0x1", "3x", "x3", "x", "a", "A", "b", "ab", "aa", "~", ".", "-", "+", "1.2.3", "1 2", "0.000001", "0.0000001", "4611686018427.387903", "4611686018428", "-99999999999999999999",
		"10\r", "\x00", "\xff", "\x7f", "\x80", "\u00e9", strings.Repeat("9", 5000)}
}

// numbers are some of each sort.
func numbers() []num.Num {
	return []num.Num{0, 1, -1, 500000, -500000, num.One, -num.One, 2 * num.One, 9 * num.One, 10 * num.One, -10 * num.One, 1500000, most - 1, most, 1 - most, -most}
}

// values are some of each kind.
func values() []cell.Cell {
	l := []cell.Cell{{}}
	for _, n := range numbers() {
		l = append(l, cell.Of(n))
	}
	for _, s := range texts() {
		l = append(l, cell.Text(s), cell.Input(s))
	}
	return l
}

// P6.1: what a kind is.
func TestKinds(t *testing.T) {
	if cell.None != 0 || cell.Num != 1 || cell.Str != 2 || cell.Both != 3 {
		t.Error("the kinds' numbers")
	}
}

// P6.1: Of, Int, Bool, Text.
func TestMade(t *testing.T) {
	for i, c := range []struct{ got, want cell.Cell }{
		{cell.Of(0), cell.Cell{Kind: 1}},
		{cell.Of(-1500000), cell.Cell{Kind: 1, N: -1500000}},
		{cell.Of(most), cell.Cell{Kind: 1, N: most}},
		{cell.Of(-most), cell.Cell{Kind: 1, N: -most}},
		{cell.Int(0), cell.Cell{Kind: 1}},
		{cell.Int(7), cell.Cell{Kind: 1, N: 7000000}},
		{cell.Int(-7), cell.Cell{Kind: 1, N: -7000000}},
		{cell.Int(math.MaxInt), cell.Cell{Kind: 1, N: most}},
		{cell.Int(math.MinInt), cell.Cell{Kind: 1, N: -most}},
		{cell.Bool(true), cell.Cell{Kind: 1, N: 1000000}},
		{cell.Bool(false), cell.Cell{Kind: 1}},
		{cell.Text(""), cell.Cell{Kind: 2}},
		{cell.Text("ab"), cell.Cell{Kind: 2, S: "ab"}},
		{cell.Text(" 10 "), cell.Cell{Kind: 2, S: " 10 "}},
		{cell.Text("a\x00\n\xff"), cell.Cell{Kind: 2, S: "a\x00\n\xff"}},
	} {
		if c.got != c.want {
			t.Errorf("%d: %v, want %v", i, c.got, c.want)
		}
	}
}

// P6.1: Input.
func TestInput(t *testing.T) {
	for s, n := range map[string]num.Num{
		"0": 0, " 10 ": 10000000, "9": 9000000, "\t-1.50\n": -1500000, "+.5": 500000, "5.": 5000000, "-0": 0, "007": 7000000,
		"0.1234567": 123456, "4611686018427.387903": most, "99999999999999999999": most, "-99999999999999999999": -most,
	} {
		if got, want := cell.Input(s), (cell.Cell{Kind: 3, N: n, S: s}); got != want {
			t.Errorf("Input(%q): %v, want %v", s, got, want)
		}
	}
	for _, s := range []string{"", " ", "x", "12x", "1 2", "0x1", "1e5", "1.2.3", ".", "-", "- 1", "10\r", "\x00", "\u00a01"} {
		if got, want := cell.Input(s), (cell.Cell{Kind: 2, S: s}); got != want {
			t.Errorf("Input(%q): %v, want %v", s, got, want)
		}
	}
}

// P6.1: Good, of each kind, and of what is none.
func TestGood(t *testing.T) {
	for _, c := range values() {
		if !cell.Good(c) {
			t.Errorf("%.40q isn't good", []any{c.Kind, c.N, c.S})
		}
	}
	for _, c := range []cell.Cell{
		{Kind: 3, N: 10000000, S: " 10 "},
		{Kind: 3, N: most, S: "4611686018428"},
		{Kind: 3, N: 0, S: "-0"},
		{Kind: 3, N: 1000001, S: "1.0000019"},
		{Kind: 2, S: "10"},
	} {
		if !cell.Good(c) {
			t.Errorf("%v isn't good", c)
		}
	}
	for _, c := range []cell.Cell{
		// A kind that there isn't.
		{Kind: -1}, {Kind: 4}, {Kind: 5, N: 1, S: "x"}, {Kind: math.MaxInt}, {Kind: math.MinInt}, {Kind: 4, N: 1000000, S: "1"},
		// None with something.
		{Kind: 0, S: "x"}, {Kind: 0, S: " "}, {Kind: 0, N: 1}, {Kind: 0, N: -1}, {Kind: 0, N: 1000000, S: "1"},
		// A text where none may be, and numbers beyond Most.
		{Kind: 1, S: "x"}, {Kind: 1, S: "0"}, {Kind: 1, N: 1000000, S: "1"}, {Kind: 1, N: most + 1}, {Kind: 1, N: -most - 1}, {Kind: 1, N: math.MaxInt64}, {Kind: 1, N: math.MinInt64},
		// A number where none may be.
		{Kind: 2, N: 1}, {Kind: 2, N: -1, S: "x"}, {Kind: 2, N: 1000000, S: "1"},
		// A Both whose text isn't its number.
		{Kind: 3}, {Kind: 3, S: "x"}, {Kind: 3, S: " "}, {Kind: 3, N: 1000000, S: ""}, {Kind: 3, N: 1000000, S: "1x"}, {Kind: 3, N: 12000000, S: "12 x"}, {Kind: 3, N: 1000000, S: "2"}, {Kind: 3, N: 1, S: "1"},
		{Kind: 3, N: 0, S: "1"}, {Kind: 3, N: 1000000, S: "-1"}, {Kind: 3, N: 1000002, S: "1.0000019"}, {Kind: 3, N: most + 1, S: "4611686018427.387904"}, {Kind: 3, N: -most - 1, S: "-4611686018427.387904"},
	} {
		if cell.Good(c) {
			t.Errorf("%v is good", c)
		}
	}
}

// P6.1: Num, Str and True.
func TestAsked(t *testing.T) {
	for _, c := range []struct {
		c   cell.Cell
		n   num.Num
		s   string
		yes bool
	}{
		{cell.Cell{}, 0, "", false},
		{cell.Of(0), 0, "0", false},
		{cell.Of(1), 1, "0.000001", true},
		{cell.Of(-1), -1, "-0.000001", true},
		{cell.Of(-1500000), -1500000, "-1.5", true},
		{cell.Of(most), most, "4611686018427.387903", true},
		{cell.Of(-most), -most, "-4611686018427.387903", true},
		{cell.Int(12), 12000000, "12", true},
		{cell.Bool(true), 1000000, "1", true},
		{cell.Bool(false), 0, "0", false},
		{cell.Text(""), 0, "", false},
		{cell.Text("0"), 0, "0", true},
		{cell.Text(" "), 0, " ", true},
		{cell.Text("x"), 0, "x", true},
		{cell.Text("x3"), 0, "x3", true},
		{cell.Text("3x"), 3000000, "3x", true},
		{cell.Text(" -1.50x"), -1500000, " -1.50x", true},
		{cell.Text("99999999999999999999"), most, "99999999999999999999", true},
		{cell.Input(""), 0, "", false},
		{cell.Input(" "), 0, " ", true},
		{cell.Input("3x"), 3000000, "3x", true},
		{cell.Input("0"), 0, "0", false},
		{cell.Input(" 0.0 "), 0, " 0.0 ", false},
		{cell.Input("0.0000001"), 0, "0.0000001", false},
		{cell.Input("0.000001"), 1, "0.000001", true},
		{cell.Input(" 10 "), 10000000, " 10 ", true},
		{cell.Input("1.50"), 1500000, "1.50", true},
		{cell.Input("-5."), -5000000, "-5.", true},
	} {
		if n, s, yes := c.c.Num(), c.c.Str(), c.c.True(); n != c.n || s != c.s || yes != c.yes {
			t.Errorf("%v: %d, %q, %v, want %d, %q, %v", c.c, n, s, yes, c.n, c.s, c.yes)
		}
	}
	for _, s := range texts() {
		n, _ := num.Prefix(s)
		for _, c := range []cell.Cell{cell.Text(s), cell.Input(s)} {
			if c.Num() != n || c.Str() != s {
				t.Errorf("%.40q: %d, %.40q, want %d", s, c.Num(), c.Str(), n)
			}
		}
	}
}

// P6.1: Compare, of each two kinds, either way about.
func TestCompare(t *testing.T) {
	none := cell.Cell{}
	for _, c := range []struct {
		a, b cell.Cell
		want int
	}{
		// The chapter's.
		{cell.Input(" 10 "), cell.Input("9"), 1},
		{cell.Text("10"), cell.Input("9"), -1},
		{none, cell.Of(0), 0},
		{none, cell.Text(""), 0},

		{none, none, 0},
		{none, cell.Int(1), -1},
		{none, cell.Of(-1), 1},
		{none, cell.Text("a"), -1},
		{none, cell.Text("\x00"), -1},
		{none, cell.Text("0"), -1},
		{none, cell.Input("0"), 0},
		{none, cell.Input(" -0.0 "), 0},
		{none, cell.Input("1"), -1},
		{none, cell.Input("-1"), 1},

		{cell.Int(2), cell.Int(2), 0},
		{cell.Int(2), cell.Int(10), -1},
		{cell.Int(-2), cell.Int(-10), 1},
		{cell.Of(1), cell.Of(2), -1},
		{cell.Of(-most), cell.Of(most), -1},
		{cell.Of(most - 1), cell.Of(most), -1},
		{cell.Int(2), cell.Text("10"), 1},
		{cell.Int(10), cell.Text("10"), 0},
		{cell.Int(10), cell.Text(" 10"), 1},
		{cell.Int(1), cell.Text("1.0"), -1},
		{cell.Of(1500000), cell.Text("1.5"), 0},
		{cell.Of(-500000), cell.Text("-0.5"), 0},
		{cell.Int(0), cell.Text(""), 1},
		{cell.Int(9), cell.Text("a"), -1},
		{cell.Int(1), cell.Input("1.0"), 0},
		{cell.Int(10), cell.Input("9"), 1},
		{cell.Int(-1), cell.Input(" 0 "), -1},
		{cell.Of(most), cell.Input("99999999999999999999"), 0},

		{cell.Text("a"), cell.Text("a"), 0},
		{cell.Text(""), cell.Text("a"), -1},
		{cell.Text("a"), cell.Text("ab"), -1},
		{cell.Text("ab"), cell.Text("b"), -1},
		{cell.Text("B"), cell.Text("a"), -1},
		{cell.Text("10"), cell.Text("9"), -1},
		{cell.Text("1.0"), cell.Text("1"), 1},
		{cell.Text("\xff"), cell.Text("\x7f"), 1},
		{cell.Text("\x80"), cell.Text("\u00e9"), -1},
		{cell.Text("9"), cell.Input("9"), 0},
		{cell.Text("9"), cell.Input("9 "), -1},
		{cell.Text("9"), cell.Input(" 10"), 1},
		{cell.Text("a"), cell.Input("1"), 1},
		{cell.Text("1.5"), cell.Input("1.50"), -1},

		{cell.Input("9"), cell.Input("9.0 "), 0},
		{cell.Input("-2"), cell.Input("-10"), 1},
		{cell.Input("x"), cell.Input("9"), 1},
		{cell.Input("10x"), cell.Input("9"), -1},
		{cell.Input(""), cell.Input("0"), -1},
		{cell.Input("0.0000001"), cell.Input("0"), 0},
	} {
		if got := cell.Compare(c.a, c.b); got != c.want {
			t.Errorf("Compare(%v, %v): %d, want %d", c.a, c.b, got, c.want)
		}
		if got := cell.Compare(c.b, c.a); got != -c.want {
			t.Errorf("Compare(%v, %v): %d, want %d", c.b, c.a, got, -c.want)
		}
	}
}

// compared is the chapter's words on Compare.
func compared(a, b cell.Cell) int {
	less, more := a.N < b.N, a.N > b.N
	if a.Kind == cell.Str || b.Kind == cell.Str {
		less, more = a.Str() < b.Str(), a.Str() > b.Str()
	}
	switch {
	case less:
		return -1
	case more:
		return 1
	}
	return 0
}

// P6.2: turned about it answers the other way; alike are 0.
func TestCompareTurnedAbout(t *testing.T) {
	for _, a := range values() {
		if got := cell.Compare(a, a); got != 0 {
			t.Errorf("Compare(%v) with itself: %d", a, got)
		}
		for _, b := range values() {
			got := cell.Compare(a, b)
			if got != compared(a, b) {
				t.Errorf("Compare(%v, %v): %d", a, b, got)
			}
			if back := cell.Compare(b, a); back != -got {
				t.Errorf("Compare(%v, %v): %d, turned about %d", a, b, got, back)
			}
		}
	}
}

// P6.2: three in a row keep their order, if they are of one kind.
func TestCompareThree(t *testing.T) {
	kinds := map[int][]cell.Cell{}
	for _, c := range values() {
		kinds[c.Kind] = append(kinds[c.Kind], c)
	}
	if len(kinds) != 4 {
		t.Errorf("%d kinds", len(kinds))
	}
	for _, l := range kinds {
		for _, a := range l {
			for _, b := range l {
				for _, c := range l {
					ab, bc, ac := cell.Compare(a, b), cell.Compare(b, c), cell.Compare(a, c)
					if ab <= 0 && bc <= 0 && (ac > 0 || ac == 0 && ab+bc < 0) {
						t.Fatalf("%v, %v, %v: %d, %d, but %d", a, b, c, ab, bc, ac)
					}
				}
			}
		}
	}
}

// P1: what isn't a value lets nothing panic either.
func TestWhatIsNoneEnds(t *testing.T) {
	for _, c := range []cell.Cell{{Kind: -1, N: 1, S: "x"}, {Kind: 4, N: 1, S: "x"}, {N: 1, S: "x"}, {Kind: 1, N: math.MinInt64, S: "x"}, {Kind: 2, N: math.MaxInt64}, {Kind: 3, S: "x"}} {
		c.Num()
		c.Str()
		c.True()
		for _, d := range append(values(), c) {
			cell.Compare(c, d)
			cell.Compare(d, c)
		}
	}
}

func shared(s, t string) bool {
	return unsafe.StringData(s) == unsafe.StringData(t)
}

// P2: no answer shares its text's bytes with what was handed in, or with another answer (K3).
func TestNothingShared(t *testing.T) {
	for _, s := range []string{"a text", " 12 "} {
		text, input := cell.Text(s), cell.Input(s)
		if shared(s, text.S) || shared(s, input.S) || shared(text.S, input.S) {
			t.Errorf("a value shares the bytes of %q", s)
		}
		for _, c := range []cell.Cell{text, input} {
			if shared(c.S, c.Str()) || shared(c.Str(), c.Str()) {
				t.Errorf("%v shares its bytes", c)
			}
		}
	}
}
