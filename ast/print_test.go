package ast_test

import (
	"strconv"
	"strings"
	"testing"

	"scribe/ast"
)

// trees: each tree of at most so many nodes, whose Op and Text hang on how many nodes there are below.
func trees(most int) []ast.Node {
	var l []ast.Node
	for size := 1; size <= most; size++ {
		for _, kids := range woods(size - 1) {
			l = append(l, at(ast.Node{Op: "n" + strconv.Itoa(size), Text: strings.Repeat(")", size-1), Kids: kids}, size))
		}
	}
	return l
}

// woods: each list of trees that have so many nodes together.
func woods(size int) [][]ast.Node {
	if size == 0 {
		return [][]ast.Node{nil}
	}
	var l [][]ast.Node
	for first := 1; first <= size; first++ {
		for _, kids := range woods(first - 1) {
			for _, rest := range woods(size - first) {
				l = append(l, append([]ast.Node{{Op: "k" + strconv.Itoa(first), Kids: kids}}, rest...))
			}
		}
	}
	return l
}

// leaves: nodes without kids, whose texts look like parts of what Print prints.
func leaves() []ast.Node {
	var l []ast.Node
	for _, op := range []string{"", "a", "1:"} {
		for _, text := range []string{"", "a", ")", " (a)", ") (a", "1:a", "a) ("} {
			l = append(l, node(op, text))
		}
	}
	return l
}

// P12.2: of small trees those alone print the same that are the same.
func TestPrintTellsTreesApart(t *testing.T) {
	small := leaves()
	for _, op := range []string{"", "a"} {
		for _, text := range []string{"", "a", ")", "(a)"} {
			for _, kid := range leaves() {
				small = append(small, node(op, text, kid), node(op, text, node("", "", kid)), node(op, text, kid, node("a", "")), node(op, text, node("a", ""), kid))
			}
		}
	}
	for _, size := range trees(5) {
		small = append(small, size)
	}
	same := 0
	for _, m := range small {
		for _, n := range small {
			alike := ast.Print(m) == ast.Print(n)
			if alike != ast.Same(m, n) {
				t.Fatalf("Same of %s and %s: %v", ast.Print(m), ast.Print(n), !alike)
			}
			if alike {
				same++
			}
		}
	}
	if same < len(small) || len(small) < 700 {
		t.Errorf("%d trees, %d pairs that are the same", len(small), same)
	}
}

// read: the tree that a text of Print's begins with, and the text behind it. Ops have no blank and no bracket.
func read(s string) (ast.Node, string) {
	s = s[1:]
	end := strings.IndexAny(s, " )")
	n := ast.Node{Op: s[:end]}
	s = s[end:]
	if s[0] == ' ' && s[1] != '(' {
		digits, rest, _ := strings.Cut(s[1:], ":")
		size, _ := strconv.Atoi(digits)
		n.Text, s = rest[:size], rest[size:]
	}
	for s[0] == ' ' {
		var kid ast.Node
		kid, s = read(s[1:])
		n.Kids = append(n.Kids, kid)
	}
	return n, s[1:]
}

// draws are numbers of a rule, so that each run has the same ones.
type draws uint64

func (d *draws) next(below int) int {
	*d = *d*6364136223846793005 + 1442695040888963407
	return int(uint64(*d)>>33) % below
}

// pick: so many of some signs.
func (d *draws) pick(signs string, n int) string {
	b := make([]byte, n)
	for i := range b {
		b[i] = signs[d.next(len(signs))]
	}
	return string(b)
}

// tree: one of at most so many levels.
func (d *draws) tree(levels int) ast.Node {
	n := ast.Node{Op: d.pick("ab1:\n\xff", d.next(4)), Text: d.pick(" ():1a\n\x00", d.next(7)), At: d.next(100)}
	if d.next(20) == 0 {
		n.Text = d.pick("() 1:", d.next(300))
	}
	if levels > 1 {
		for range d.next(4) {
			n.Kids = append(n.Kids, d.tree(levels-1))
		}
	}
	return n
}

// P12.1, P12.2: what Print prints can be read again, and is the same tree then.
func TestReadAgain(t *testing.T) {
	var d draws
	for range 5000 {
		n := d.tree(6)
		s := ast.Print(n)
		m, rest := read(s)
		if rest != "" || !ast.Same(m, n) || !ast.Same(n, m) || ast.Print(m) != s {
			t.Fatalf("%q is read as %q, behind it %q", s, ast.Print(m), rest)
		}
		if !equal(at(m, 0), at(n, 0)) {
			t.Fatalf("Same of %q and %q", s, ast.Print(m))
		}
		other := d.tree(4)
		if ast.Same(n, other) != (s == ast.Print(other)) {
			t.Fatalf("Same of %q and %q: %v", s, ast.Print(other), ast.Same(n, other))
		}
		want := model(n)
		levels := 0
		for _, x := range want {
			levels = max(levels, x.deep+1)
		}
		if ast.Size(n) != len(want) || ast.Depth(n) != levels {
			t.Fatalf("Size %d, Depth %d of %q", ast.Size(n), ast.Depth(n), s)
		}
	}
}
