package resolve_test

import (
	"regexp"
	"slices"
	"strings"
	"testing"
	"unsafe"

	"scribe/api"
	"scribe/ast"
	"scribe/parse"
	"scribe/resolve"
)

// reordered: the items with the functions in another order, at the places where functions stand.
func (d *draws) reordered(items []string) []string {
	var functions []string
	for _, s := range items {
		if strings.HasPrefix(s, "function") {
			functions = append(functions, s)
		}
	}
	for i := range functions {
		k := d.next(i + 1)
		functions[i], functions[k] = functions[k], functions[i]
	}
	l := slices.Clone(items)
	for i, s := range l {
		if strings.HasPrefix(s, "function") {
			l[i], functions = functions[0], functions[1:]
		}
	}
	return l
}

// sorted: what an Info says, in an order that doesn't hang on that of functions.
func sorted(x *resolve.Info) string {
	functions, globals, _ := strings.Cut(short(x), "|")
	f, g := strings.SplitAfter(functions, ") "), strings.Fields(globals)
	slices.Sort(f)
	slices.Sort(g)
	return strings.Join(f, "") + "|" + strings.Join(g, " ")
}

// P14.2: in another order of its functions a program is right if it was, with the same names; and wrong if it was, in the same way if only one thing is wrong.
func TestOrderOfFunctions(t *testing.T) {
	d := draws(3)
	right, wrong := 0, 0
	for range 15000 {
		items := d.write()
		n, _, e := parse.Parse(strings.Join(items, "\n"))
		if e != api.OK {
			continue
		}
		m := parsed(t, strings.Join(d.reordered(items), "\n"))
		x, _, e := resolve.Resolve(n)
		y, _, e1 := resolve.Resolve(m)
		if (e == api.OK) != (e1 == api.OK) || sorted(x) != sorted(y) {
			t.Fatalf("Resolve(%q): %s, %d; in another order %s, %d", items, short(x), e, short(y), e1)
		}
		if e == api.OK {
			right++
		} else {
			wrong++
		}
	}
	if right < 1000 || wrong < 1000 {
		t.Errorf("%d are right, %d are wrong", right, wrong)
	}
	for _, x := range []struct {
		want api.Errno
		s    []string
	}{
		{api.ErrKind, []string{"function f(a){a[1]}", "function g(b){f(b);b}", "{g(x)}"}}, {api.ErrKind, []string{"function f(a){a}", "function g(b){f(b);b[1]}", "function h(c){g(c)}"}}, {api.ErrKind, []string{"function f(a){return g(a)}", "function g(b){b[1]}", "{f(1)}"}}, {api.ErrKind, []string{"function f(g){}", "function g(b){}", "{}"}}, {api.ErrKind, []string{"function f(a){}", "function g(b){f(b,1)}", "function h(c){}"}}, {api.ErrKind, []string{"function f(a){}", "function g(b){f=1}", "function h(c){}"}}, {api.ErrKind, []string{"function f(a){}", "function g(b){}", "function f(c){}"}}, {api.ErrKind, []string{"function f(NR){}", "function g(b){}", "{g(f(1))}"}}, {api.ErrKind, []string{"function f(a){a[1]}", "function g(b){f(b)}", "{g(OFS)}"}}, {api.ErrKind, []string{"function f(a){i()}", "function g(b){f(b)}", "function h(){}"}}, {api.ErrKind, []string{"function f(a,a){}", "function g(b){f(b)}", "function h(){}"}},
		{api.ErrSyntax, []string{"function f(a){next}", "function g(b){f(b)}", "{g(x)}"}}, {api.ErrSyntax, []string{"function f(a){a}", "function g(b){break}", "function h(){}"}}, {api.ErrSyntax, []string{"function f(a){return}", "function g(b){}", "END{return}"}},
	} {
		for _, order := range [][]int{{0, 1, 2}, {0, 2, 1}, {1, 0, 2}, {1, 2, 0}, {2, 0, 1}, {2, 1, 0}} {
			s := x.s[order[0]] + "\n" + x.s[order[1]] + "\n" + x.s[order[2]]
			if info, _, e := resolve.Resolve(parsed(t, s)); info != nil || e != x.want {
				t.Errorf("Resolve(%q): %s, %d, want %d", s, short(info), e, x.want)
			}
		}
	}
}

var someName = regexp.MustCompile(`\b[spaqf][0-9]\b`)

// P14.2: with other names, of which no two are one, a program is answered in the same way, at the same place if they are as long.
func TestOtherNames(t *testing.T) {
	d := draws(9)
	right := 0
	for range 15000 {
		s := strings.Join(d.write(), "\n")
		n, _, e := parse.Parse(s)
		if e != api.OK {
			continue
		}
		// A name's letter and its digit are exchanged, each in its own way.
		letters := []string{"fspaq", "abcde", "qapsf", "NEPIM", "_xyzk"}[d.next(5)]
		other := func(name string) string {
			return string(letters[strings.IndexByte("fspaq", name[0])]) + string('9'-name[1]+'0')
		}
		x, at, e := resolve.Resolve(n)
		y, at1, e1 := resolve.Resolve(parsed(t, someName.ReplaceAllStringFunc(s, other)))
		if at != at1 || e != e1 || someName.ReplaceAllStringFunc(short(x), other) != short(y) {
			t.Fatalf("Resolve(%q): %s, %d at %d; with other names %s, %d at %d", s, short(x), e, at, short(y), e1, at1)
		}
		if e == api.OK {
			right++
		}
	}
	if right < 1000 {
		t.Errorf("%d are right", right)
	}
}

// own: a tree of its own, with spare room behind each list, in which a node stands.
func own(n ast.Node) ast.Node {
	n.Op, n.Text = strings.Clone(n.Op), strings.Clone(n.Text)
	kids := make([]ast.Node, len(n.Kids), len(n.Kids)+1)
	for i, kid := range n.Kids {
		kids[i] = own(kid)
	}
	kids[:len(kids)+1][len(kids)] = ast.Node{Op: "spare"}
	n.Kids = kids
	return n
}

// intact: is the spare room behind each list as it was laid?
func intact(n ast.Node) bool {
	spare := n.Kids[:len(n.Kids)+1][len(n.Kids)]
	return equal(spare, ast.Node{Op: "spare"}) && !slices.ContainsFunc(n.Kids, func(kid ast.Node) bool { return !intact(kid) })
}

// spoil changes all of a tree's lists, with the room behind them.
func spoil(n ast.Node) {
	for _, kid := range n.Kids {
		spoil(kid)
	}
	whole := n.Kids[:cap(n.Kids)]
	for i := range whole {
		whole[i] = ast.Node{Op: "spoilt", Text: "spoilt", At: -1}
	}
}

// spoilInfo changes all that an Info has, with the room behind its lists.
func spoilInfo(x *resolve.Info) {
	for _, f := range x.Funcs {
		spoil(f.Body)
		spoilLists(f.Params, f.Arrays)
	}
	spoilLists(x.Globals, x.Arrays)
	whole := x.Funcs[:cap(x.Funcs)]
	for i := range whole {
		whole[i] = resolve.Func{Name: "spoilt"}
	}
	*x = resolve.Info{Globals: []string{"spoilt"}}
}

func spoilLists(names []string, arrays []bool) {
	names, arrays = names[:cap(names)], arrays[:cap(arrays)]
	for i := range names {
		names[i] = "spoilt"
	}
	for i := range arrays {
		arrays[i] = !arrays[i]
	}
}

// copyOf: all of an Info, with other memory.
func copyOf(x *resolve.Info) *resolve.Info {
	y := &resolve.Info{Globals: slices.Clone(x.Globals), Arrays: slices.Clone(x.Arrays)}
	for _, f := range x.Funcs {
		y.Funcs = append(y.Funcs, resolve.Func{Name: f.Name, Params: slices.Clone(f.Params), Arrays: slices.Clone(f.Arrays), Body: own(f.Body)})
	}
	return y
}

func same(x, y *resolve.Info) bool {
	return slices.Equal(x.Globals, y.Globals) && slices.Equal(x.Arrays, y.Arrays) && slices.EqualFunc(x.Funcs, y.Funcs, func(f, g resolve.Func) bool {
		return f.Name == g.Name && slices.Equal(f.Params, g.Params) && slices.Equal(f.Arrays, g.Arrays) && equal(f.Body, g.Body)
	})
}

// texts: all texts of a tree that have bytes.
func texts(n ast.Node) []string {
	var l []string
	for _, s := range []string{n.Op, n.Text} {
		if s != "" {
			l = append(l, s)
		}
	}
	for _, kid := range n.Kids {
		l = append(l, texts(kid)...)
	}
	return l
}

func infoTexts(x *resolve.Info) []string {
	l := slices.Clone(x.Globals)
	for _, f := range x.Funcs {
		l = append(append(append(l, f.Name), f.Params...), texts(f.Body)...)
	}
	return l
}

// P2: no tree is changed, and nothing that is answered shares memory with it or with another answer (K3); the same tree is answered in the same way (K4).
func TestAnswersApart(t *testing.T) {
	d := draws(21)
	right := 0
	for range 4000 {
		n, _, e := parse.Parse(strings.Join(d.write(), "\n"))
		if e != api.OK {
			continue
		}
		tree := own(n)
		x, at, e := resolve.Resolve(tree)
		y, at1, e1 := resolve.Resolve(tree)
		if !equal(tree, n) || !intact(tree) || at != at1 || e != e1 || (x == nil) != (y == nil) {
			t.Fatalf("%s: %d at %d, again %d at %d", ast.Print(tree), e, at, e1, at1)
		}
		if x == nil {
			continue
		}
		right++
		seen := map[*byte]bool{}
		for _, s := range slices.Concat(texts(tree), infoTexts(x), infoTexts(y)) {
			if seen[unsafe.StringData(s)] {
				t.Fatalf("the bytes of %q are shared", s)
			}
			seen[unsafe.StringData(s)] = true
		}
		want := copyOf(x)
		if !same(x, y) {
			t.Fatalf("%s: %s, again %s", ast.Print(tree), short(x), short(y))
		}
		spoil(tree)
		spoilInfo(x)
		if !same(y, want) {
			t.Fatalf("%s, want %s", short(y), short(want))
		}
		for i := range y.Funcs {
			_ = append(y.Funcs[i].Params, "more")
			_ = append(y.Funcs[i].Arrays, true)
			grow(y.Funcs[i].Body)
		}
		if !same(y, want) {
			t.Fatalf("lists of %s share room", short(y))
		}
	}
	if right < 500 {
		t.Errorf("%d are right", right)
	}
}

// grow puts nodes behind each list.
func grow(n ast.Node) {
	_ = append(n.Kids, ast.Node{Op: "more"}, ast.Node{Op: "more"})
	for _, kid := range n.Kids {
		grow(kid)
	}
}

// P14.1, P1: programs as long and as deep as there are; and the zero Node, which Parse answers beside an error.
func TestGreatPrograms(t *testing.T) {
	if x, at, e := resolve.Resolve(ast.Node{}); e != api.OK || at != 0 || x == nil || short(x) != "| " {
		t.Errorf("the zero Node: %s, %d at %d", short(x), e, at)
	}
	for _, x := range []struct{ ahead, again, behind, want string }{
		{"", "a+", "a", "| a"}, {"{", "a ", "}", "| a"}, {"a", " in b", "", "| b[] a"}, {"{", "a;", "}", "| a"}, {"", "{}", "", "| "}, {"{f(x);x[1]}function f(a){", "f(a);", "}", "f(a[]) | x[]"}, {"{", "a[1];", "}", "| a[]"}, {"{x[1]", "~x[1]", "}", "| x[]"}, {"function f(a){f(1)", "+f(a)", "}", "f(a) | "},
	} {
		s := x.ahead + strings.Repeat(x.again, (3990-len(x.ahead)-len(x.behind))/len(x.again)) + x.behind
		if info, at, e := resolve.Resolve(parsed(t, s)); e != api.OK || at != 0 || short(info) != x.want {
			t.Errorf("Resolve(%.40q): %.100s, %d at %d", s, short(info), e, at)
		}
	}
	// All names are others, and each is handed on.
	s := "function f(a"
	for i := range 26 * 7 {
		s += ",a" + string(rune('a'+i%26)) + string(rune('a'+i/26))
	}
	s += "){a[1]}{f("
	for i := range 26 * 7 {
		s += "b" + string(rune('a'+i%26)) + string(rune('a'+i/26)) + ","
	}
	s += "b)}"
	x, at, e := resolve.Resolve(parsed(t, s))
	if e != api.OK || at != 0 || len(x.Globals) != 26*7+1 || !x.Arrays[0] || slices.Contains(x.Arrays[1:], true) || x.Globals[0] != "baa" || x.Globals[26*7] != "b" {
		t.Errorf("%s, %d at %d", short(x), e, at)
	}
}
