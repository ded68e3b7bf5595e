package parse_test

import (
	"slices"
	"strings"
	"testing"
	"unsafe"

	"scribe/api"
	"scribe/ast"
	"scribe/parse"
)

// spread: the tokens with ; and Newlines in between, at the places where these may stand.
func (w *writer) spread() []string {
	var l []string
	from := 0
	for _, gap := range slices.Compact(slices.Sorted(slices.Values(w.gaps))) {
		l = append(l, w.tokens[from:gap]...)
		for range w.next(4) {
			l = append(l, w.end())
		}
		from = gap
	}
	return append(l, w.tokens[from:]...)
}

// P13.2: blanks, comments, and ; and Newlines between statements and items don't change the tree.
func TestBlanksChangeNothing(t *testing.T) {
	d := draws(11)
	for range 3000 {
		w := writer{draws: &d, size: 1 + d.next(50)}
		want := w.program()
		if w.over > 0 {
			continue
		}
		plain := w.tokens
		for range 4 {
			w.tokens = plain
			if d.next(2) == 0 {
				w.tokens = w.spread()
			}
			s, _ := w.lay()
			if len(s) > 4000 {
				continue
			}
			n, at, e := parse.Parse(s)
			if e != api.OK || at != 0 || !ast.Same(n, want) {
				t.Fatalf("Parse(%q): %s, %d at %d, want %s", s, short(n), e, at, short(want))
			}
		}
	}
	for _, x := range [][]string{
		{"{a;b}", "{ a ; b }", "{a\nb}", "{;a;;b;}", "{\na\n\n;\nb\n}", "{a#x\nb#y\n}", "{a\\\n;\\\nb}", "{\ta\r\n\tb\r\n}", "{a;#}\nb}"},
		{"a{}b", "a{};b", "a{}\nb", ";a{}\n\n;b;", "a {\n}b\n#", "a{;}b;;"},
		{"{if(a)b;else c;d}", "{if ( a ) b ; else c ; d}", "{if(a)\n\nb\nelse\n\nc\nd}", "{if(a)b;\n;\nelse c;;d}", "{if(a)b;;else c\n;\nd}", "{if(\na\n)b#\n#\n;else#\nc#\nd}"},
		{"{x=f(a,b)+c[d]}", "{x = f( a , b ) + c [ d ]}", "{x=\nf(\na,\nb\n)+c[\nd\n]}", "{x\\\n=\\\nf(a\\\n,b)\\\n+c\\\n[d]}"},
		{"{print a,b>c}", "{print\ta ,\n b > c ;}", "{;print a,#,\n#\nb>c#\n}"},
	} {
		want, _, e := parse.Parse(x[0])
		for _, s := range x {
			if n, at, e1 := parse.Parse(s); e != api.OK || e1 != api.OK || at != 0 || !ast.Same(n, want) {
				t.Errorf("Parse(%q): %s, %d at %d, want %s", s, short(n), e1, at, short(want))
			}
		}
	}
}

// shifted: the places of one tree behind those of another text; what has no place has none.
func shifted(n ast.Node, by int) ast.Node {
	kids := slices.Clone(n.Kids)
	for i, kid := range kids {
		kids[i] = shifted(kid, by)
	}
	n.Kids = kids
	if n.At > 0 {
		n.At += by
	}
	return n
}

// P13.3: two programs with a Newline between have the items of both; and what is wrong in the second one is told there.
func TestBothPrograms(t *testing.T) {
	d := draws(5)
	var programs, wrong []string
	for len(programs) < 150 || len(wrong) < 150 {
		s, _, over := d.write(1 + d.next(30))
		s = "\t" + s // so that no place in it is 0
		if over >= 0 || len(s) > 1000 {
			continue
		}
		programs = append(programs, s)
		if s = "\t" + d.changed(s); s != "\t" {
			if _, _, e := parse.Parse(s); e != api.OK {
				wrong = append(wrong, s)
			}
		}
	}
	programs = append(programs, "", " ", ";", "\n", "# a", "\ta", "\ta;", "\ta#b", "\tBEGIN{}", "\tfunction f(){}", "\t/x/", "\ta/b")
	for _, a := range programs {
		for _, b := range append(programs[:40:40], programs[140:]...) {
			m, _, _ := parse.Parse(a)
			n, _, _ := parse.Parse(b)
			want := node("program", append(slices.Clone(m.Kids), shifted(n, len(a)+1).Kids...)...)
			if both, at, e := parse.Parse(a + "\n" + b); e != api.OK || at != 0 || !equal(both, want) {
				t.Fatalf("Parse(%q): %s, %d at %d, want %s", a+"\n"+b, short(both), e, at, short(want))
			}
		}
		for _, b := range wrong[:20] {
			_, wantAt, want := parse.Parse(b)
			if n, at, e := parse.Parse(a + "\n" + b); !zero(n) || e != want || at != wantAt+len(a)+1 {
				t.Fatalf("Parse(%q): %d at %d, want %d at %d", a+"\n"+b, e, at, want, wantAt+len(a)+1)
			}
		}
	}
}

// spoil changes all of a tree's lists, with the room behind them.
func spoil(n ast.Node) {
	for _, kid := range n.Kids {
		spoil(kid)
	}
	whole := n.Kids[:cap(n.Kids)]
	for i := range whole {
		whole[i] = ast.Node{Op: "spoilt", Text: "spoilt", At: -1}
	}
}

// P2: a tree is its own, and so is each of its lists (K3); the same text has the same tree each time (K4).
func TestTreesApart(t *testing.T) {
	d := draws(13)
	for range 500 {
		s, want, over := d.write(1 + d.next(60))
		if over >= 0 || len(s) > 4000 {
			continue
		}
		one, _, _ := parse.Parse(s)
		two, _, _ := parse.Parse(s)
		spoil(one)
		if three, at, e := parse.Parse(s); !equal(two, want) || !equal(three, want) || at != 0 || e != api.OK {
			t.Fatalf("Parse(%q): %s, %s", s, short(two), short(three))
		}
		grow(two)
		if !equal(two, want) {
			t.Fatalf("Parse(%q): lists of %s share room", s, short(two))
		}
		from := uintptr(unsafe.Pointer(unsafe.StringData(s)))
		for _, n := range everyNode(two, nil) {
			at := uintptr(unsafe.Pointer(unsafe.StringData(n.Text)))
			if n.Text != "" && at >= from && at < from+uintptr(len(s)) {
				t.Fatalf("Parse(%q): the bytes of %q are the text's", s, n.Text)
			}
		}
	}
}

// grow puts nodes behind each list.
func grow(n ast.Node) {
	_ = append(n.Kids, ast.Node{Op: "more"}, ast.Node{Op: "more"})
	for _, kid := range n.Kids {
		grow(kid)
	}
}

func everyNode(n ast.Node, l []ast.Node) []ast.Node {
	l = append(l, n)
	for _, kid := range n.Kids {
		l = everyNode(kid, l)
	}
	return l
}

// P13.1, P1: any text ends with a tree or with a place in it, also such as are no texts of the language at all.
func TestAnyText(t *testing.T) {
	d := draws(17)
	bytes := "{}()[];,+-*/%!><|?:~$=\"\\#. \n\tab1\x00\xff"
	for i := range 60000 {
		b := make([]byte, d.next(30))
		for k := range b {
			if b[k] = bytes[d.next(len(bytes))]; i%3 == 0 {
				b[k] = byte(d.next(256))
			}
		}
		s := string(b)
		n, at, e := parse.Parse(s)
		if e == api.OK && (at != 0 || n.Op != "program") || e != api.OK && (!zero(n) || at < 0 || at > len(s) || e != api.ErrSyntax && e != api.ErrBan) {
			t.Fatalf("Parse(%q): %s, %d at %d", s, short(n), e, at)
		}
		m, at1, e1 := parse.Parse(s)
		if !equal(n, m) || at != at1 || e != e1 {
			t.Fatalf("Parse(%q) again: %s, %d at %d", s, short(m), e1, at1)
		}
	}
	for _, w := range append(strings.Fields(everyToken), "\n", " ", "\x00", "a=", "{a;", "if(a)", "a?", "f(a,", "print(", "print>", "a[", "$++", "for(;", "else ", "!a ", "split(a,b", "/x/~", "{if(a)b;else ", ")}", "1 ") {
		for _, ahead := range []string{"", "{", "a", "{print ", "BEGIN{", "{x="} {
			s := (ahead + strings.Repeat(w, 4000))[:4000]
			if n, at, e := parse.Parse(s); e != api.OK && (!zero(n) || at > len(s)) {
				t.Errorf("Parse(%.40q): %d at %d", s, e, at)
			}
			if n, at, e := parse.Parse(s + "}"); e != api.ErrBig || at != 0 || !zero(n) {
				t.Errorf("Parse(%.40q), a byte too long: %d at %d", s, e, at)
			}
		}
	}
}
