package regex_test

import (
	"strings"
	"testing"

	"scribe/api"
	"scribe/regex"
)

// P9.1: patterns of MaxBytes bytes, and of more.
func TestBytesOfAPattern(t *testing.T) {
	kids := make([]regex.Node, 300)
	for i := range kids {
		kids[i] = a
	}
	parts := make([]regex.Node, 301)
	check(t, []tree{{strings.Repeat("a", 300), cat(kids...)}, {strings.Repeat("a", 299), cat(kids[1:]...)}, {strings.Repeat("|", 300), alt(parts...)}, {"[" + strings.Repeat("a", 298) + "]", a}, {strings.Repeat("()", 150), cat(parts[:150]...)}})
	checkSyntax(t, 299, strings.Repeat("a", 299)+`\`, strings.Repeat("a", 299)+")", strings.Repeat("a", 299)+"(", strings.Repeat("|", 299)+"*", strings.Repeat("a", 299)+"[")
	checkSyntax(t, 0, "["+strings.Repeat("a", 299), "("+strings.Repeat("a", 299), strings.Repeat("*", 300))
	for _, s := range []string{strings.Repeat("a", 301), strings.Repeat("a", 300) + ")", strings.Repeat("*", 301), strings.Repeat("(", 301), strings.Repeat("|", 301), "[" + strings.Repeat("a", 300), strings.Repeat("()", 150) + "a", strings.Repeat("\u00e9", 151), strings.Repeat("\x00", 301), strings.Repeat("a", 302), strings.Repeat("a", 1<<20)} {
		checkRefused(t, []refused{{s, 0, api.ErrBig}})
	}
}

// P9.1: the 20th and the 21st bracket that are open.
func TestDeep(t *testing.T) {
	open := func(n int) string { return strings.Repeat("(", n) }
	shut := func(n int) string { return strings.Repeat(")", n) }
	check(t, []tree{
		{open(20) + "a" + shut(20), a}, {open(19) + "a" + shut(19), a}, {open(20) + shut(20), empty},
		// Brackets that are closed don't count, nor those that are bytes.
		{open(20) + shut(20) + open(20) + "a" + shut(20), cat(empty, a)}, {open(20) + "a)(b" + shut(20), cat(a, b)}, {open(19) + "()()()" + shut(19), cat(empty, empty, empty)}, {open(20) + `[(]\(` + shut(20), cat(one("("), one("("))},
		{open(20) + "a" + strings.Repeat(")*", 20), many(20, regex.Star, a)},
	})
	checkRefused(t, []refused{
		{open(21), 20, api.ErrDeep}, {open(22), 20, api.ErrDeep}, {open(300), 20, api.ErrDeep}, {open(21) + "a" + shut(21), 20, api.ErrDeep}, {open(21) + shut(21), 20, api.ErrDeep}, {open(21) + "*", 20, api.ErrDeep}, {open(21) + `\`, 20, api.ErrDeep}, {open(21) + "[", 20, api.ErrDeep}, {open(21) + shut(22), 20, api.ErrDeep},
		{"a|" + open(21), 22, api.ErrDeep}, {open(20) + ")(" + "(", 22, api.ErrDeep}, {open(20) + "ab(", 22, api.ErrDeep}, {open(10) + "a" + open(11), 21, api.ErrDeep}, {open(20) + shut(20) + open(21), 60, api.ErrDeep}, {open(20) + `\(` + "(", 22, api.ErrDeep}, {open(20) + "[(](", 23, api.ErrDeep},
		// What is wrong ahead of it is told in its place.
		{"*" + open(21), 0, api.ErrSyntax}, {open(20) + "*(", 20, api.ErrSyntax}, {open(20) + "|+(", 21, api.ErrSyntax}, {open(20) + "[(", 20, api.ErrSyntax}, {open(20) + `\a(`, 20, api.ErrSyntax}, {")" + open(21), 0, api.ErrSyntax}, {open(20) + "[b-a](", 20, api.ErrSyntax},
		{open(20), 19, api.ErrSyntax}, {open(20) + shut(19), 0, api.ErrSyntax}, {open(20) + shut(21), 40, api.ErrSyntax},
	})
}

// P9.1: which of several errors is told, and where.
func TestFirstError(t *testing.T) {
	for s, at := range map[string]int{
		// Brackets that close nothing, or aren't closed: of several the last one.
		")": 0, "a)": 1, "())": 2, "(a))": 3, "a|)": 2, "*)": 0, ")*": 0, "))": 0, ")(": 0, "a)b": 1, "())(": 2, "[)])": 3,
		"(": 0, "((": 1, "(()": 0, "()(": 2, "(a": 0, "(a|": 0, "(a(b": 2, "(a(b)": 0, "((a)(b": 4, "(a)(b)(c": 6, "(((": 2, "(()(": 3, "a*(": 2, "(a*": 0, "([)]": 0, "[(](": 3, `(\)`: 0,
		// A set that isn't closed is told ahead of a bracket that isn't.
		"([": 1, "((a[b": 3, "(a)[": 3, "([)": 1, "a([^]": 2,
		// What is wrong within a set is told ahead of its end, but what is wrong behind it isn't.
		`[\a`: 1, `[a\`: 2, `[ab\zc`: 3, `[\a\b`: 1, `[b-a\z`: 0, `[\zb-a`: 1, `[\zb-a]`: 1, `[b-a\z]`: 0, `[b-\z`: 3, `[\z-a`: 1, `[\a](`: 1, `([\a`: 2, `[a]\z[`: 3,
		// The first one from the left, of each two kinds.
		`*\a`: 0, `\a*`: 0, `\a)`: 0, `)\a`: 0, `a\z*)`: 1, "*[": 0, "[*": 0, "a|*[": 2, "(*": 1, "(*)": 1, "(a|*": 3, "(|*)": 2, "*(": 0, `(\a`: 1, `(\`: 1, "(a)*)": 4, "[b-a]*)": 0, ")[b-a]": 0, "[b-a][": 0, "[a][b-a][": 3, "(a[b-a]": 2, "a**|*": 4, "a)*": 1, "(a))*": 3, `(a\)`: 0, `a\n\m`: 3,
	} {
		checkSyntax(t, at, s)
	}
}

// P9.1: Has, With and Not, of each byte.
func TestSetCalls(t *testing.T) {
	var none regex.Set
	all := set(but(""))
	if none.Not() != all || all.Not() != none {
		t.Errorf("Not: %x, %x", none.Not(), all.Not())
	}
	for i := range 256 {
		x := byte(i)
		s := none.With(x)
		if want := set(string([]byte{x})); s != want || s.With(x) != s || all.With(x) != all || none != (regex.Set{}) {
			t.Errorf("With(%d): %x, want %x", x, s, want)
		}
		if s.Not() != set(but(string([]byte{x}))) || s.Not().Not() != s || s.Not().With(x) != all || s != none.With(x) {
			t.Errorf("Not of %d: %x", x, s.Not())
		}
		if none.Has(x) || !all.Has(x) {
			t.Errorf("Has(%d): %v of none, %v of all", x, none.Has(x), all.Has(x))
		}
		for k := range 256 {
			if y := byte(k); s.Has(y) != (x == y) || s.Not().Has(y) != (x != y) {
				t.Errorf("Has(%d) of %d: %v, of all others: %v", y, x, s.Has(y), s.Not().Has(y))
			}
		}
	}
	if s, want := none.With(0).With(63).With(64).With(127).With(128).With(191).With(192).With(255), (regex.Set{1<<63 | 1, 1<<63 | 1, 1<<63 | 1, 1<<63 | 1}); s != want {
		t.Errorf("the ends of the words: %x", s)
	}
}

// digits are those of an a and of a b alone.
const (
	digitsA = "0000000000000000" + "0000000200000000" + "0000000000000000" + "0000000000000000"
	digitsB = "0000000000000000" + "0000000400000000" + "0000000000000000" + "0000000000000000"
)

// P9.1: Print of each kind, of one below and above them, and of what stands within one another.
func TestPrint(t *testing.T) {
	const least, most = -1 << 63, 1<<63 - 1
	word := regex.Node{Op: regex.One, Set: regex.Set{0x0123456789abcdef, 0xfedcba9876543210, 1, 1 << 63}}
	for _, x := range []struct {
		n    regex.Node
		want string
	}{
		{empty, "e"}, {cat(), "&"}, {alt(), "|"}, {node(regex.Star), "*"}, {node(regex.Plus), "+"}, {node(regex.Opt), "?"}, {begin, "^"}, {end, "$"},
		{node(-1), "e"}, {node(-2), "e"}, {node(least), "e"}, {node(9), "$"}, {node(10), "$"}, {node(most), "$"}, {node(1 << 32), "$"}, {node(-1 << 32), "e"},
		{a, "1" + digitsA}, {word, "1" + "0123456789abcdeffedcba987654321000000000000000018000000000000000"}, {one(""), "1" + strings.Repeat("0", 64)}, {one(but("")), "1" + strings.Repeat("f", 64)}, {one("\x00"), "1" + "0000000000000001" + strings.Repeat("0", 48)}, {one("\xff"), "1" + strings.Repeat("0", 48) + "8000000000000000"},
		{cat(a, b), "&(1" + digitsA + ")(1" + digitsB + ")"}, {alt(b, a, empty), "|(1" + digitsB + ")(1" + digitsA + ")(e)"}, {star(begin), "*(^)"}, {plus(star(end)), "+(*($))"}, {opt(alt(empty, cat(begin, end))), "?(|(e)(&(^)($)))"},
		// Whatever has kids prints them, and nothing but One prints a set.
		{node(regex.Empty, begin), "e(^)"}, {node(regex.Begin, end, empty), "^($)(e)"}, {node(-5, star(end)), "e(*($))"}, {node(12, empty), "$(e)"}, {regex.Node{Op: regex.One, Set: set("a"), Kids: []regex.Node{end}}, "1" + digitsA + "($)"},
		{regex.Node{Op: regex.Star, Set: set("a")}, "*"}, {regex.Node{Op: 9, Set: set("a")}, "$"}, {regex.Node{Op: -1, Set: set("a")}, "e"}, {regex.Node{Op: regex.Empty, Kids: []regex.Node{}}, "e"},
		{many(499, regex.Star, end), strings.Repeat("*(", 499) + "$" + strings.Repeat(")", 499)}, {many(499, regex.Alt, a), strings.Repeat("|(", 499) + "1" + digitsA + strings.Repeat(")", 499)},
	} {
		if got := regex.Print(x.n); got != x.want {
			t.Errorf("Print(%v): %s, want %s", x.n, got, x.want)
		}
	}
	if n, _, _ := regex.Parse("a|b*"); regex.Print(n) != "|(1"+digitsA+")(*(1"+digitsB+"))" {
		t.Errorf("Print of a|b*: %s", regex.Print(n))
	}
}

// spoil changes all of a tree that can be changed.
func spoil(n *regex.Node) {
	n.Op, n.Set = -7, set("spoilt")
	whole := n.Kids[:cap(n.Kids)]
	for i := range whole {
		if i < len(n.Kids) {
			spoil(&n.Kids[i])
		} else {
			whole[i] = regex.Node{Op: -7}
		}
	}
}

// P2: answers share no memory with each other, nor lists of one answer, and no call changes what it is handed (K3, K4).
func TestMemory(t *testing.T) {
	const s = "(a|b)*(a|b)+c??[a-c](a|b)|(^$|)"
	want, _, _ := regex.Parse(s)
	before := regex.Print(want)
	n, _, _ := regex.Parse(s)
	for i := range n.Kids {
		spoil(&n.Kids[i])
		for _, other := range n.Kids[i+1:] {
			if strings.Contains(regex.Print(other), "e(") {
				t.Errorf("a kid changed with kid %d: %s", i, regex.Print(n))
			}
		}
	}
	if again, _, _ := regex.Parse(s); regex.Print(again) != before || regex.Print(want) != before {
		t.Error("an answer changed another one")
	}
	m, _, _ := regex.Parse("(a|b)(a|b)(a|b)")
	spoil(&m.Kids[1])
	if !alike(m.Kids[0], alt(a, b)) || !alike(m.Kids[2], alt(a, b)) {
		t.Errorf("lists of one answer share memory: %s", regex.Print(m))
	}
	list := make([]regex.Node, 3)
	list[0], list[1], list[2] = a, star(b), end
	if regex.Print(cat(list[:2]...)); !alike(cat(list...), cat(a, star(b), end)) {
		t.Error("Print changed its tree")
	}
}
