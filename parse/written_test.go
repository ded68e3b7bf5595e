package parse_test

import (
	"slices"
	"strings"
	"testing"

	"scribe/api"
	"scribe/ast"
	"scribe/lex"
	"scribe/parse"
)

// write: a program of some size, its tree, and the place of the first level too much (or -1).
func (d *draws) write(size int) (string, ast.Node, int) {
	w := writer{draws: d, size: size}
	n := w.program()
	s, places := w.lay()
	over := -1
	if w.over > 0 {
		over = places[w.over-1]
	}
	return s, laid(n, places), over
}

func equal(a, b ast.Node) bool {
	return a.Op == b.Op && a.Text == b.Text && a.At == b.At && slices.EqualFunc(a.Kids, b.Kids, equal)
}

// P13.1: programs that are written from their trees have these, with the places; and the grammar takes them.
func TestWritten(t *testing.T) {
	var d draws
	g := newGrammar()
	ops := map[string]int{}
	for i := range 20000 {
		s, want, over := d.write(1 + d.next(60))
		if len(s) > 4000 || over >= 0 {
			continue
		}
		n, at, e := parse.Parse(s)
		if e != api.OK || at != 0 || !equal(n, want) {
			t.Fatalf("Parse(%q): %s, %d at %d, want %s", s, placed(n)+short(n), e, at, placed(want)+short(want))
		}
		for _, x := range ast.All(n) {
			ops[x.Op]++
		}
		if i%10 == 0 {
			if at, e := g.model(s); e != api.OK {
				t.Fatalf("the grammar refuses %q at %d", s, at)
			}
		}
	}
	for _, op := range strings.Fields("program begin end func param rule always default block empty if while forin for none break continue next exit return delete name index print printf to append expr cond var field assign or and in match nomatch less lesseq equal notequal greater greatereq cat add sub mul div mod not neg plus preinc predec postinc postdec num str re call builtin") {
		if ops[op] < 50 {
			t.Errorf("%d nodes of %s", ops[op], op)
		}
	}
}

// P13.1: the same for programs that are deep: those that are too deep are told where the 51st level begins.
func TestWrittenDeep(t *testing.T) {
	d := draws(7)
	deep := 0
	for range 3000 {
		w := writer{draws: &d, size: 1 + d.next(200), deep: 40 + d.next(8)}
		ahead := strings.Repeat("{", w.deep+1)
		w.put(strings.Split(ahead, "")...)
		w.put("\n")
		want := w.statement(false)
		s, places := w.lay()
		if len(s) > 3900 {
			continue
		}
		s += strings.Repeat("}", len(ahead))
		n, at, e := parse.Parse(s)
		if w.over > 0 {
			deep++
			if e != api.ErrDeep || at != places[w.over-1] || !zero(n) {
				t.Fatalf("Parse(%q): %d at %d, want one at %d", s, e, at, places[w.over-1])
			}
			continue
		}
		if e != api.OK || at != 0 {
			t.Fatalf("Parse(%q): %d at %d", s, e, at)
		}
		n = n.Kids[0].Kids[1]
		for range len(ahead) - 1 {
			n = n.Kids[0]
		}
		if want.Op != "empty" && !equal(n.Kids[0], laid(want, places)) {
			t.Fatalf("Parse(%q): %s, want %s", s, placed(n)+short(n), placed(want)+short(want))
		}
	}
	if deep < 100 {
		t.Errorf("%d are too deep", deep)
	}
}

// changed: a text's tokens with one or two of them out, doubled, others, or exchanged.
func (d *draws) changed(s string) string {
	tokens, _, _ := lex.Lex(s)
	var l []string
	for i, t := range tokens[:len(tokens)-1] {
		l = append(l, strings.TrimRight(s[t.At:tokens[i+1].At], " \t\r\\"))
	}
	for range 1 + d.next(2) {
		if len(l) == 0 {
			return ""
		}
		i, k := d.next(len(l)), d.next(len(l))
		switch d.next(6) {
		case 0:
			l = slices.Delete(l, i, i+1)
		case 1:
			l = slices.Insert(l, i, l[i])
		case 2:
			l[i] = d.pick(everyToken)
		case 3:
			l = slices.Insert(l, i, d.pick(everyToken))
		case 4:
			l[i], l[k] = l[k], l[i]
		case 5:
			l = l[:i]
		}
	}
	var out strings.Builder
	for i, x := range l {
		out.WriteString(x)
		if i+1 < len(l) && !(l[i+1] == "(" && slices.Contains(strings.Fields(functions), x)) {
			out.WriteString(" ")
		}
	}
	return out.String()
}

// P13.1: programs with a few tokens changed are taken, or refused where the grammar says.
func TestChanged(t *testing.T) {
	d := draws(3)
	g := newGrammar()
	taken := 0
	for range 20000 {
		s, _, over := d.write(1 + d.next(25))
		if len(s) > 300 || over >= 0 {
			continue
		}
		if checkModel(t, g, d.changed(s)) {
			taken++
		}
		if t.Failed() {
			return
		}
	}
	if taken < 1000 {
		t.Errorf("%d are taken", taken)
	}
}
