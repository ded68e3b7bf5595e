package match_test

import (
	"regexp"
	"slices"
	"strconv"
	"strings"
	"testing"

	"scribe/api"
	"scribe/match"
	"scribe/regex"
)

// step is the chapter's words on what a tree matches: the places of a text to which it does, from one of some places.
func step(n regex.Node, s string, from []bool) []bool {
	out := make([]bool, len(s)+1)
	switch n.Op {
	case regex.Empty:
		copy(out, from)
	case regex.One:
		for i := range len(s) {
			out[i+1] = from[i] && n.Set.Has(s[i])
		}
	case regex.Cat:
		copy(out, from)
		for _, kid := range n.Kids {
			out = step(kid, s, out)
		}
	case regex.Alt:
		for _, kid := range n.Kids {
			either(out, step(kid, s, from))
		}
	case regex.Star:
		copy(out, from)
		for either(out, step(n.Kids[0], s, out)) {
		}
	case regex.Plus:
		out = step(regex.Node{Op: regex.Star, Kids: n.Kids}, s, step(n.Kids[0], s, from))
	case regex.Opt:
		copy(out, from)
		either(out, step(n.Kids[0], s, from))
	case regex.Begin:
		out[0] = from[0]
	case regex.End:
		out[len(s)] = from[len(s)]
	}
	return out
}

// either adds places to others; were there new ones?
func either(out, more []bool) bool {
	added := false
	for i, x := range more {
		added = added || x && !out[i]
		out[i] = out[i] || x
	}
	return added
}

// ends: by place the farthest one to which a tree matches from there, or -1.
func ends(n regex.Node, s string) []int {
	l := make([]int, len(s)+1)
	for at := range l {
		from := make([]bool, len(s)+1)
		from[at] = true
		l[at] = -1
		for to, ok := range step(n, s, from) {
			if ok {
				l[at] = to
			}
		}
	}
	return l
}

// modelFind is the chapter's words on Find, of what ends answers.
func modelFind(l []int, from int) (int, int, bool) {
	if from < 0 {
		return 0, 0, false
	}
	for at := from; at < len(l); at++ {
		if l[at] >= 0 {
			return at, l[at], true
		}
	}
	return 0, 0, false
}

// modelAll is the chapter's words on All.
func modelAll(l []int) []span {
	var out []span
	for at := 0; ; {
		from, to, ok := modelFind(l, at)
		if !ok {
			return out
		}
		at = to
		if from == to {
			at++
		}
		if from != to || len(out) == 0 || out[len(out)-1][1] != from {
			out = append(out, span{from, to})
		}
	}
}

// checkModel: Find from each place, In and All of a pattern in a text.
func checkModel(t *testing.T, pattern string, n regex.Node, p *match.Prog, s string) {
	t.Helper()
	l := ends(n, s)
	for at := -1; at <= len(s)+1; at++ {
		wantFrom, wantTo, wantOK := modelFind(l, at)
		if from, to, ok := p.Find(s, at); from != wantFrom || to != wantTo || ok != wantOK {
			t.Fatalf("Find of %q in %q from %d: %d, %d, %v, want %d, %d, %v", pattern, s, at, from, to, ok, wantFrom, wantTo, wantOK)
		}
		if at == 0 && p.In(s) != wantOK {
			t.Fatalf("In of %q in %q: %v", pattern, s, p.In(s))
		}
	}
	got, want := all(p.All(s)), modelAll(l)
	if !slices.Equal(got, want) {
		t.Fatalf("All of %q in %q: %v, want %v", pattern, s, got, want)
	}
	end := -1
	for _, x := range got {
		if x[0] < max(end, 0) || x[1] < x[0] || x[1] > len(s) || x[0] == x[1] && x[0] == end {
			t.Fatalf("All of %q in %q: %v overlap", pattern, s, got)
		}
		end = x[1]
	}
}

// each: all texts of so many of the signs.
func each(signs string, n int) []string {
	l := []string{""}
	for range n {
		var longer []string
		for _, s := range l {
			for i := range len(signs) {
				longer = append(longer, s+signs[i:i+1])
			}
		}
		l = longer
	}
	return l
}

// texts: all of at most so many of the signs.
func texts(signs string, most int) []string {
	var l []string
	for n := range most + 1 {
		l = append(l, each(signs, n)...)
	}
	return l
}

// P10.1, P10.3: each short pattern of the bytes that matter, in each short text.
func TestEachPattern(t *testing.T) {
	all := texts("ab", 4)
	for k, pattern := range texts("ab(|)*?^$", 5) {
		n, _, e := regex.Parse(pattern)
		if e != api.OK {
			continue
		}
		p, _ := match.Compile(n)
		for i, s := range all {
			// Each text stands with some of the longest patterns.
			if len(pattern) < 5 || i%5 == k%5 {
				checkModel(t, pattern, n, p, s)
			}
		}
	}
}

// draws are numbers of a rule, so that each run has the same ones.
type draws uint64

func (d *draws) next(below int) int {
	*d = *d*6364136223846793005 + 1442695040888963407
	return int(uint64(*d)>>33) % below
}

// pick: so many bytes of some signs.
func (d *draws) pick(signs string, n int) string {
	b := make([]byte, n)
	for i := range b {
		b[i] = signs[d.next(len(signs))]
	}
	return string(b)
}

// pattern: one of such things, at most so deep.
func (d *draws) pattern(things []string, deep int) string {
	var parts []string
	for range d.next(3) + 1 {
		part := ""
		for range d.next(4) {
			if deep > 0 && d.next(3) == 0 {
				part += "(" + d.pattern(things, deep-1) + ")"
			} else {
				part += things[d.next(len(things))]
			}
			for d.next(3) == 0 {
				part += d.pick("*+?", 1)
			}
		}
		parts = append(parts, part)
	}
	return strings.Join(parts, "|")
}

var (
	plain = []string{"a", "b", "a", "b", "c", ".", "[ab]", "[^a]", "[b-c]", "()"}
	ended = append([]string{"^", "$"}, plain...)
	bytes = append([]string{"\x00", "\xff", "[\x80-\xff]", "[^\x00]", `\n`, "[\x3f\x40]"}, ended...)
)

// P10.1, P10.3: long patterns, in long texts, of all kinds of bytes.
func TestLongPatterns(t *testing.T) {
	var d draws
	for i := range 20000 {
		things, signs := ended, "aabbc"
		if i%4 == 0 {
			things, signs = bytes, "ab\x00\n\x3f\x40\x7f\x80\xff"
		}
		pattern := d.pattern(things, 3)
		n, _, e := regex.Parse(pattern)
		if e == api.ErrBig {
			continue
		}
		p, _, e := match.Of(pattern)
		if e != api.OK {
			t.Fatalf("Of(%q): %d", pattern, e)
		}
		for range 3 {
			checkModel(t, pattern, n, p, d.pick(signs, d.next(14)))
		}
	}
}

// spell: a tree in the spelling of package regexp.
func spell(n regex.Node) string {
	var kids []string
	for _, kid := range n.Kids {
		kids = append(kids, spell(kid))
	}
	switch n.Op {
	case regex.One:
		s := ""
		for c := range 128 {
			if n.Set.Has(byte(c)) {
				s += `\x{` + strconv.FormatInt(int64(c), 16) + "}"
			}
		}
		return "[" + s + "]"
	case regex.Cat:
		return strings.Join(kids, "")
	case regex.Alt:
		return "(?:" + strings.Join(kids, "|") + ")"
	case regex.Star, regex.Plus, regex.Opt:
		return "(?:" + kids[0] + ")" + "*+?"[n.Op-regex.Star:n.Op-regex.Star+1]
	case regex.Begin:
		return `\A`
	case regex.End:
		return `\z`
	}
	return "(?:)"
}

// P10.1: what package regexp finds, of long patterns in long texts.
func TestAsRegexp(t *testing.T) {
	d := draws(5)
	for range 10000 {
		pattern := d.pattern(ended, 3)
		n, _, e := regex.Parse(pattern)
		if e != api.OK {
			continue
		}
		p, _ := match.Compile(n)
		model := regexp.MustCompile(spell(n))
		model.Longest()
		for range 3 {
			s := d.pick("aabbc", d.next(60))
			var want []span
			for _, x := range model.FindAllStringIndex(s, -1) {
				want = append(want, span{x[0], x[1]})
			}
			if got := all(p.All(s)); !slices.Equal(got, want) {
				t.Fatalf("All of %q in %q: %v, want %v", pattern, s, got, want)
			}
		}
	}
}

// P10.2: what Find tells lies within the text, and the pattern between ^ and $ is met in just that part.
func TestJustThatPart(t *testing.T) {
	d := draws(9)
	right := 0
	for range 20000 {
		pattern := d.pattern(plain, 3)
		if len(pattern) > 290 {
			continue
		}
		p, whole := of(t, pattern), of(t, "^("+pattern+")$")
		for range 3 {
			s := d.pick("aabbcd", d.next(30))
			at := d.next(len(s) + 1)
			from, to, ok := p.Find(s, at)
			if !ok {
				continue
			}
			right++
			if from < at || to < from || to > len(s) {
				t.Fatalf("Find of %q in %q from %d: %d, %d", pattern, s, at, from, to)
			}
			if a, b, ok := whole.Find(s[from:to], 0); a != 0 || b != to-from || !ok {
				t.Fatalf("%q is found in %q from %d to %d, but not there alone: %d, %d, %v", pattern, s, from, to, a, b, ok)
			}
			if to < len(s) && whole.In(s[from:]) {
				t.Fatalf("%q is found in %q from %d to %d, but goes on to the end", pattern, s, from, to)
			}
		}
	}
	if right < 10000 {
		t.Errorf("only %d matches", right)
	}
}

// P9.2: two patterns with | between are met where one of both is; one in ( and ) is met where it is itself.
func TestEither(t *testing.T) {
	d := draws(3)
	for range 10000 {
		first, second := d.pattern(ended, 2), d.pattern(ended, 2)
		if len(first)+len(second) > 280 {
			continue
		}
		p, q, both, same := of(t, first), of(t, second), of(t, first+"|"+second), of(t, "("+first+")")
		s := d.pick("aabbc", d.next(20))
		at := d.next(len(s) + 1)
		a1, b1, ok1 := p.Find(s, at)
		a2, b2, ok2 := q.Find(s, at)
		a, b, ok := both.Find(s, at)
		switch {
		case !ok1 || ok2 && (a2 < a1 || a2 == a1 && b2 > b1):
			a1, b1, ok1 = a2, b2, ok2
		}
		if a != a1 || b != b1 || ok != ok1 {
			t.Fatalf("Find of %q|%q in %q from %d: %d, %d, %v, want %d, %d, %v", first, second, s, at, a, b, ok, a1, b1, ok1)
		}
		if !slices.Equal(all(same.All(s)), all(p.All(s))) {
			t.Fatalf("All of %q in brackets in %q: %v", first, s, all(same.All(s)))
		}
	}
}
