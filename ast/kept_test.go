package ast_test

import (
	"slices"
	"strings"
	"testing"
	"unsafe"

	"scribe/ast"
)

// own: a tree of its own, with spare room behind each list, in which a node stands.
func own(n ast.Node) ast.Node {
	n.Op, n.Text = strings.Clone(n.Op), strings.Clone(n.Text)
	kids := make([]ast.Node, len(n.Kids), len(n.Kids)+1)
	for i, kid := range n.Kids {
		kids[i] = own(kid)
	}
	kids[:len(kids)+1][len(kids)] = ast.Node{Op: "spare"}
	n.Kids = kids
	return n
}

// intact: is the spare room behind each list as it was laid?
func intact(n ast.Node) bool {
	spare := n.Kids[:len(n.Kids)+1][len(n.Kids)]
	return equal(spare, ast.Node{Op: "spare"}) && !slices.ContainsFunc(n.Kids, func(kid ast.Node) bool { return !intact(kid) })
}

// spoil changes all of a node's lists, with the room behind them.
func spoil(n ast.Node) {
	for _, kid := range n.Kids {
		spoil(kid)
	}
	whole := n.Kids[:cap(n.Kids)]
	for i := range whole {
		whole[i] = ast.Node{Op: "spoilt", Text: "spoilt", At: -1}
	}
}

// P2: no call changes what it is handed, nor the room behind it (K3).
func TestNothingChanged(t *testing.T) {
	n := own(sample)
	ops := append(make([]string, 0, 5), "var", "x")
	spare := ops[:3]
	spare[2] = "spare"
	ast.Print(n)
	ast.Size(n)
	ast.Depth(n)
	all(ast.All(n))
	ast.First(n, ops...)
	ast.Same(n, own(sample))
	ast.Same(n, n)
	if !equal(n, sample) || !intact(n) || !slices.Equal(spare, []string{"var", "x", "spare"}) {
		t.Errorf("%s, %q", ast.Print(n), spare)
	}
}

// P2: what All tells is the tree as it was at the call, whatever becomes of its lists, or of the nodes that were told (K3, K4).
func TestAllKeepsNothing(t *testing.T) {
	want := model(sample)
	n := own(sample)
	it := ast.All(n)
	spoil(n)
	if got := all(it); !slices.Equal(got, want) {
		t.Errorf("behind a change: %v, want %v", got, want)
	}
	for range 2 {
		var got []told
		var nodes []ast.Node
		for deep, x := range it {
			got = append(got, tell(deep, x))
			nodes = append(nodes, x)
			if !equal(x, part(sample, len(nodes)-1)) {
				t.Errorf("node %d: %s", len(nodes)-1, ast.Print(x))
			}
			spoil(x)
		}
		if !slices.Equal(got, want) {
			t.Errorf("with changes of the told ones: %v, want %v", got, want)
		}
	}
	for i := range want {
		var nodes []ast.Node
		for _, x := range it {
			nodes = append(nodes, x)
		}
		spoil(nodes[i])
		for k, x := range nodes {
			if k != i && !equal(x, part(sample, k)) {
				t.Errorf("node %d changed with node %d", k, i)
			}
		}
	}
}

// part: a tree's node of this number.
func part(n ast.Node, i int) ast.Node {
	todo := []ast.Node{n}
	for range i {
		todo = append(slices.Clone(todo[0].Kids), todo[1:]...)
	}
	return todo[0]
}

// P2: the node of First is its own (K3).
func TestFirstIsItsOwn(t *testing.T) {
	n := own(sample)
	one, _ := ast.First(n, "rule")
	two, _ := ast.First(n, "rule")
	spoil(one)
	if !equal(n, sample) || !intact(n) || !equal(two, sample.Kids[0]) {
		t.Errorf("%s, %s", ast.Print(n), ast.Print(two))
	}
	spoil(n)
	if !equal(two, sample.Kids[0]) {
		t.Errorf("%s", ast.Print(two))
	}
}

// P2: lists of one answer have no room in common behind them.
func TestListsApart(t *testing.T) {
	first, _ := ast.First(own(sample), "program")
	var grow func(n ast.Node)
	grow = func(n ast.Node) {
		for _, kid := range n.Kids {
			grow(kid)
		}
		_ = append(n.Kids, ast.Node{Op: "more"}, ast.Node{Op: "more"})
	}
	grow(first)
	if !equal(first, sample) {
		t.Errorf("%s", ast.Print(first))
	}
}

// texts: all texts of a tree that have bytes.
func texts(n ast.Node) []string {
	var l []string
	for _, s := range []string{n.Op, n.Text} {
		if s != "" {
			l = append(l, s)
		}
	}
	for _, kid := range n.Kids {
		l = append(l, texts(kid)...)
	}
	return l
}

// P2: no text of an answer shares its bytes with what was handed in, or with another answer (K3).
func TestTextsApart(t *testing.T) {
	n := own(sample)
	first, _ := ast.First(n, "program")
	l := append(texts(n), texts(first)...)
	it := ast.All(n)
	for range 2 {
		for _, x := range it {
			l = append(l, texts(x)...)
		}
	}
	seen := map[*byte]bool{}
	for _, s := range l {
		if seen[unsafe.StringData(s)] {
			t.Errorf("the bytes of %q are shared", s)
		}
		seen[unsafe.StringData(s)] = true
	}
}
