package ast_test

import (
	"iter"
	"slices"
	"strconv"
	"strings"
	"testing"

	"scribe/ast"
)

func node(op, text string, kids ...ast.Node) ast.Node {
	return ast.Node{Op: op, Text: text, Kids: kids}
}

// at: a tree whose places are all different.
func at(n ast.Node, first int) ast.Node {
	place := first
	var lay func(ast.Node) ast.Node
	lay = func(n ast.Node) ast.Node {
		n.At, n.Kids = place, slices.Clone(n.Kids)
		place++
		for i, kid := range n.Kids {
			n.Kids[i] = lay(kid)
		}
		return n
	}
	return lay(n)
}

// row: a tree of so many levels, one node on each; a and b by turns, the last one is z.
func row(levels int) ast.Node {
	n := node("z", "")
	for i := levels - 1; i > 0; i-- {
		n = node([]string{"a", "b"}[i%2], "", n)
	}
	return n
}

// told is a node of All, as far as it lies there itself, and how deep.
type told struct {
	deep     int
	op, text string
	at, kids int
}

func tell(deep int, n ast.Node) told {
	return told{deep, n.Op, n.Text, n.At, len(n.Kids)}
}

func all(it iter.Seq2[int, ast.Node]) []told {
	var l []told
	for deep, n := range it {
		l = append(l, tell(deep, n))
	}
	return l
}

// model is what All has to tell: the nodes that are left to be told lie in a row, the next one first.
func model(n ast.Node) []told {
	type left struct {
		deep int
		n    ast.Node
	}
	var l []told
	for todo := []left{{0, n}}; len(todo) > 0; {
		next := todo[0]
		l = append(l, tell(next.deep, next.n))
		var below []left
		for _, kid := range next.n.Kids {
			below = append(below, left{next.deep + 1, kid})
		}
		todo = append(below, todo[1:]...)
	}
	return l
}

// equal: are they the same in all, places too? A list that is nil and an empty one are the same.
func equal(a, b ast.Node) bool {
	return a.Op == b.Op && a.Text == b.Text && a.At == b.At && slices.EqualFunc(a.Kids, b.Kids, equal)
}

var sample = at(node("program", "", node("rule", "", node("always", ""), node("block", "", node("print", "", node("none", ""), node("num", "1"), node("var", "ab")))), node("func", "f", node("param", "x"), node("block", "", node("return", "", node("var", "x"))))), 10)

// P12.1: the chapter's example.
func TestExample(t *testing.T) {
	n := node("add", "", node("num", "1"), node("var", "ab"))
	if s := ast.Print(n); s != "(add (num 1:1) (var 2:ab))" || ast.Size(n) != 3 || ast.Depth(n) != 2 {
		t.Errorf("%s, Size %d, Depth %d", s, ast.Size(n), ast.Depth(n))
	}
}

// P12.1: Print of trees, whatever their texts are.
func TestPrint(t *testing.T) {
	long := strings.Repeat("x", 4000)
	for want, n := range map[string]ast.Node{
		"()": {}, "(a)": node("a", ""), "(a 1:b)": node("a", "b"), "( 1:b)": node("", "b"), "( ())": node("", "", node("", "")), "(a (b))": node("a", "", node("b", "")), "(a (b) (c))": node("a", "", node("b", ""), node("c", "")), "(a (b (c)))": node("a", "", node("b", "", node("c", ""))), "(a 1:x (b 1:y) (c 2:zz (d)))": node("a", "x", node("b", "y"), node("c", "zz", node("d", ""))), "(a () ())": node("a", "", node("", ""), node("", "")),
		// Texts with blanks, brackets, a colon and digits in them, and bytes that are no letters.
		"(a 1: )": node("a", " "), "(a 1:()": node("a", "("), "(a 1:))": node("a", ")"), "(a 1::)": node("a", ":"), "(a 3:1:b)": node("a", "1:b"), "(a 5: (b) )": node("a", " (b) "), "(a 8:) (b 1:c)": node("a", ") (b 1:c"), "(a 1:\n)": node("a", "\n"), "(a 2:\x00\xff)": node("a", "\x00\xff"), "(a 2:\u00e9)": node("a", "\u00e9"), "(a 3:\u2028)": node("a", "\u2028"), "(a 9:123456789)": node("a", "123456789"), "(a 10:1234567890)": node("a", "1234567890"), "(a 4000:" + long + ")": node("a", long),
		// An Op stands as it is.
		"(a b)": node("a b", ""), "(\x00\xff\n)": node("\x00\xff\n", ""), "(a 1:b 1:c)": node("a 1:b", "c"),
		// Places aren't told.
		"(a 1:b (c))": {Op: "a", Text: "b", At: 7, Kids: []ast.Node{{Op: "c", At: -1}}}, "(a  (b))": {Op: "a ", At: -1 << 63, Kids: []ast.Node{{Op: "b", At: 1<<63 - 1}}},
		"(e)": {Op: "e", Kids: []ast.Node{}}, "(e 1:f)": {Op: "e", Text: "f", Kids: []ast.Node{}},
	} {
		if got := ast.Print(n); got != want {
			t.Errorf("Print: %.100q, want %.100q", got, want)
		}
	}
}

// P12.1: All, Size and Depth of trees of each form, also of one node.
func TestForms(t *testing.T) {
	for _, n := range append(trees(5), ast.Node{}, node("a", "", row(3), row(5), row(1), row(4)), sample, at(row(100), 0), at(node("a", "", row(2), node("b", "", row(7), row(2)), node("c", "")), -5)) {
		want := model(n)
		levels := 0
		for _, x := range want {
			levels = max(levels, x.deep+1)
		}
		if got := all(ast.All(n)); !slices.Equal(got, want) {
			t.Errorf("All of %s: %v, want %v", ast.Print(n), got, want)
		}
		if ast.Size(n) != len(want) || ast.Depth(n) != levels {
			t.Errorf("%s: Size %d, Depth %d, want %d, %d", ast.Print(n), ast.Size(n), ast.Depth(n), len(want), levels)
		}
		for _, x := range ast.All(n) {
			if first, ok := ast.First(x, x.Op); !ok || !equal(first, x) {
				t.Errorf("First of %s: %v, %v", ast.Print(x), first, ok)
			}
		}
	}
	if n := (ast.Node{}); ast.Size(n) != 1 || ast.Depth(n) != 1 || !slices.Equal(all(ast.All(n)), []told{{}}) {
		t.Errorf("the zero Node: Size %d, Depth %d, All %v", ast.Size(n), ast.Depth(n), all(ast.All(n)))
	}
}

// P12.1: with each node of All comes all that lies below it.
func TestAllTellsWholeNodes(t *testing.T) {
	var prints []string
	for _, n := range ast.All(sample) {
		prints = append(prints, ast.Print(n))
	}
	want := []string{ast.Print(sample), "(rule (always) (block (print (none) (num 1:1) (var 2:ab))))", "(always)", "(block (print (none) (num 1:1) (var 2:ab)))", "(print (none) (num 1:1) (var 2:ab))", "(none)", "(num 1:1)", "(var 2:ab)", "(func 1:f (param 1:x) (block (return (var 1:x))))", "(param 1:x)", "(block (return (var 1:x)))", "(return (var 1:x))", "(var 1:x)"}
	if !slices.Equal(prints, want) {
		t.Errorf("%q, want %q", prints, want)
	}
}

// P12.1, K7: an iterator is left at each node, and gone through again.
func TestLeft(t *testing.T) {
	for _, n := range []ast.Node{sample, {}, at(row(30), 0), at(node("a", "", row(3), row(1), row(4)), 0)} {
		want := model(n)
		it := ast.All(n)
		for stop := range len(want) + 1 {
			var got []told
			for deep, x := range it {
				if got = append(got, tell(deep, x)); len(got) == stop {
					break
				}
			}
			whole := len(want)
			if stop > 0 {
				whole = stop
			}
			if !slices.Equal(got, want[:whole]) {
				t.Errorf("left at %d: %v, want %v", stop, got, want[:whole])
			}
		}
		for range 2 {
			if got := all(it); !slices.Equal(got, want) {
				t.Errorf("again: %v, want %v", got, want)
			}
		}
		rounds := 0
		for range it {
			if got := all(it); !slices.Equal(got, want) {
				t.Errorf("All within All: %v, want %v", got, want)
			}
			rounds++
		}
		if rounds != len(want) {
			t.Errorf("%d rounds, want %d", rounds, len(want))
		}
	}
}

// P12.1: First with no Op, with several, with one that isn't there.
func TestFirst(t *testing.T) {
	n := at(node("a", "1", node("b", "2", node("c", "3"), node("d", "4")), node("c", "5", node("e", "6")), node("b", "7"), node("", "8")), 20)
	for _, x := range []struct {
		ops  []string
		text string
		at   int
	}{
		{[]string{"a"}, "1", 20}, {[]string{"b"}, "2", 21}, {[]string{"c"}, "3", 22}, {[]string{"d"}, "4", 23}, {[]string{"e"}, "6", 25}, {[]string{""}, "8", 27},
		{[]string{"e", "d"}, "4", 23}, {[]string{"d", "e"}, "4", 23}, {[]string{"c", "b"}, "2", 21}, {[]string{"c", "b", "a"}, "1", 20}, {[]string{"x", "e", "y"}, "6", 25}, {[]string{"", "e"}, "6", 25}, {[]string{"d", "d"}, "4", 23},
	} {
		if first, ok := ast.First(n, x.ops...); !ok || first.Text != x.text || first.At != x.at {
			t.Errorf("First(%q): %v, %v", x.ops, first, ok)
		}
	}
	if first, ok := ast.First(n, "b"); !ok || !equal(first, n.Kids[0]) {
		t.Errorf("First(b): %v, want %v", first, n.Kids[0])
	}
	for _, ops := range [][]string{nil, {}, {"x"}, {"x", "y"}, {"A"}, {"a "}, {"aa"}, {"1"}, {"a 1:1"}} {
		if first, ok := ast.First(n, ops...); ok || !equal(first, ast.Node{}) {
			t.Errorf("First(%q): %v, %v", ops, first, ok)
		}
	}
	if first, ok := ast.First(ast.Node{}, ""); !ok || !equal(first, ast.Node{}) {
		t.Errorf("First of the zero Node: %v, %v", first, ok)
	}
	if _, ok := ast.First(ast.Node{}); ok {
		t.Error("First of the zero Node with no Op")
	}
}

// P12.1: Same asks for Op, Text, how many kids and their order, but not for At.
func TestSame(t *testing.T) {
	a, b := node("a", "x"), node("b", "y")
	for _, x := range []struct {
		m, n ast.Node
		want bool
	}{
		{ast.Node{}, ast.Node{}, true}, {a, a, true}, {a, b, false}, {a, node("a", "x"), true}, {a, node("b", "x"), false}, {a, node("a", "y"), false}, {a, node("a", ""), false}, {a, node("", "x"), false}, {node("ab", "c"), node("a", "bc"), false}, {node("a", "x "), a, false}, {node("A", "x"), a, false},
		{ast.Node{Op: "a", At: 1}, ast.Node{Op: "a", At: 2}, true}, {ast.Node{Op: "a"}, ast.Node{Op: "a", Kids: []ast.Node{}}, true},
		{node("c", "", a), node("c", "", a), true}, {node("c", "", a), node("c", ""), false}, {node("c", "", a), node("c", "", a, a), false}, {node("c", "", a, a), node("c", "", a), false}, {node("c", "", a, b), node("c", "", b, a), false}, {node("c", "", a, b), node("c", "", a, b), true}, {node("c", "", a, b), node("c", "", a, a), false}, {node("c", "", a, b), node("c", "", b, b), false},
		{node("c", "", node("d", "", a)), node("c", "", node("d", "", b)), false}, {node("c", "", node("d", "", a), b), node("c", "", node("d", "", a, b)), false}, {node("c", "", node("d", ""), a), node("c", "", node("d", "", a)), false}, {node("c", "", node("d", "", at(a, 3))), node("c", "", node("d", "", at(a, 4))), true}, {node("c", "", a, ast.Node{}), node("c", "", a), false},
	} {
		if ast.Same(x.m, x.n) != x.want || ast.Same(x.n, x.m) != x.want {
			t.Errorf("Same of %s and %s: %v", ast.Print(x.m), ast.Print(x.n), !x.want)
		}
	}
}

// changed: the tree with its node number i changed.
func changed(n ast.Node, i int, change func(*ast.Node)) ast.Node {
	var lay func(ast.Node) ast.Node
	lay = func(n ast.Node) ast.Node {
		n.Kids = slices.Clone(n.Kids)
		if i == 0 {
			change(&n)
		}
		i--
		for k, kid := range n.Kids {
			n.Kids[k] = lay(kid)
		}
		return n
	}
	return lay(n)
}

// P12.1, P12.2: a change at any node is seen by Same and by Print, but one of a place by neither.
func TestEachChange(t *testing.T) {
	for _, n := range []ast.Node{sample, at(row(20), 0), at(node("a", "", row(3), row(1), row(4)), 0)} {
		for i := range ast.Size(n) {
			for k, change := range []func(*ast.Node){
				func(x *ast.Node) { x.Op += "x" }, func(x *ast.Node) { x.Text += "x" }, func(x *ast.Node) { x.Op, x.Text = x.Op+"x", "" }, func(x *ast.Node) { x.Kids = append(x.Kids, ast.Node{}) }, func(x *ast.Node) { x.Kids = slices.Insert(x.Kids, 0, node("x", "")) }, func(x *ast.Node) { x.Kids = []ast.Node{node("x", "", x.Kids...)} },
			} {
				m := changed(n, i, change)
				if ast.Same(n, m) || ast.Same(m, n) || ast.Print(n) == ast.Print(m) {
					t.Errorf("change %d at %d isn't seen: %s", k, i, ast.Print(m))
				}
			}
			m := changed(n, i, func(x *ast.Node) { x.At = -7 })
			if !ast.Same(n, m) || !ast.Same(m, n) || ast.Print(n) != ast.Print(m) {
				t.Errorf("a place at %d is seen", i)
			}
		}
	}
}

// P12.1: trees of 5000 levels, and of many kids.
func TestGreatTrees(t *testing.T) {
	const levels = 5000
	n, other := at(row(levels), 0), row(levels)
	if ast.Size(n) != levels || ast.Depth(n) != levels || !ast.Same(n, other) || ast.Print(n) != ast.Print(other) {
		t.Errorf("Size %d, Depth %d", ast.Size(n), ast.Depth(n))
	}
	if want := "(b (a (b (a"; !strings.HasPrefix(ast.Print(n), want) || !strings.HasSuffix(ast.Print(n), "(z"+strings.Repeat(")", levels)) {
		t.Errorf("Print: %.30s", ast.Print(n))
	}
	if first, ok := ast.First(n, "z"); !ok || first.At != levels-1 {
		t.Errorf("First: %v, %v", first, ok)
	}
	if _, ok := ast.First(n, "x"); ok {
		t.Error("First of what isn't there")
	}
	next := 0
	for deep, x := range ast.All(n) {
		if deep != next || x.At != next {
			t.Fatalf("All: %d at %d, want %d", x.At, deep, next)
		}
		next++
	}
	if next != levels {
		t.Errorf("All: %d nodes", next)
	}
	if m := changed(n, levels-1, func(x *ast.Node) { x.Text = "x" }); ast.Same(n, m) {
		t.Error("Same of what differs at the last level")
	}
	const kids = 100000
	wide := node("a", "")
	for i := range kids {
		wide.Kids = append(wide.Kids, node("b", strconv.Itoa(i)))
	}
	last := -1
	for deep, x := range ast.All(wide) {
		if last >= 0 && (deep != 1 || x.Text != strconv.Itoa(last)) {
			t.Fatalf("All: %s at %d, want %d", x.Text, deep, last)
		}
		last++
	}
	if ast.Size(wide) != kids+1 || ast.Depth(wide) != 2 || last != kids || !ast.Same(wide, at(wide, 0)) {
		t.Errorf("Size %d, Depth %d, the last one %d", ast.Size(wide), ast.Depth(wide), last)
	}
}
