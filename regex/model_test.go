package regex_test

import (
	"regexp"
	"strings"
	"testing"
	"unicode/utf8"

	"scribe/api"
	"scribe/regex"
)

// frame is what a model knows of a bracket that is open, or of the whole.
type frame struct {
	place  int
	parts  []regex.Node
	things []regex.Node
}

// group: the nodes as one, if there are two or more.
func group(op int, l []regex.Node) regex.Node {
	switch len(l) {
	case 0:
		return regex.Node{}
	case 1:
		return l[0]
	}
	return regex.Node{Op: op, Kids: append([]regex.Node{}, l...)}
}

func (f *frame) endPart() {
	f.parts = append(f.parts, group(regex.Cat, f.things))
	f.things = nil
}

func (f *frame) add(n regex.Node) {
	f.things = append(f.things, n)
}

// The patterns are read as runes here, a byte each, so that all bytes are alike.
var (
	escape = regexp.MustCompile("(?s)^\\\\([nt !-/:-@\\[-`{-~])")
	item   = regexp.MustCompile("(?s)^(\\\\[nt !-/:-@\\[-`{-~]|[^\\\\])(-(\\\\[nt !-/:-@\\[-`{-~]|[^\\\\\\]]))?")
)

func runes(s string) string {
	var b strings.Builder
	for i := range len(s) {
		b.WriteRune(rune(s[i]))
	}
	return b.String()
}

// meant: the byte that is meant by a byte, or by a backslash and one.
func meant(s string) byte {
	r, size := utf8.DecodeRuneInString(s)
	switch {
	case s == `\n`:
		return 10
	case s == `\t`:
		return 9
	case len(s) > size:
		return s[1]
	}
	return byte(r)
}

// modelSet: the set that begins at a place, how many bytes it has, or the place of what is wrong.
func modelSet(s string, at int) (regex.Node, int, int) {
	i := at + 1
	not := i < len(s) && s[i] == '^'
	if not {
		i++
	}
	var in [256]bool
	for first := true; first || i >= len(s) || s[i] != ']'; first = false {
		m := item.FindStringSubmatch(runes(s[i:]))
		if m == nil && i < len(s) {
			return regex.Node{}, 0, i // a backslash
		}
		if m == nil {
			return regex.Node{}, 0, at
		}
		low := meant(m[1])
		high := low
		if m[2] != "" {
			high = meant(m[3])
		}
		if low > high {
			return regex.Node{}, 0, at
		}
		for c := int(low); c <= int(high); c++ {
			in[c] = true
		}
		i += utf8.RuneCountInString(m[0])
	}
	var s1 regex.Set
	for c := range 256 {
		if in[c] != not {
			s1[c>>6] += 1 << (c & 63)
		}
	}
	return regex.Node{Op: regex.One, Set: s1}, i + 1 - at, -1
}

// model is the chapter's words on Parse, with a stack of what is open.
func model(s string) (regex.Node, int, api.Errno) {
	if len(s) > 300 {
		return regex.Node{}, 0, api.ErrBig
	}
	stack := []*frame{{place: -1}}
	for i := 0; i < len(s); {
		top, size := stack[len(stack)-1], 1
		switch s[i] {
		case '(':
			if len(stack) > 20 {
				return regex.Node{}, i, api.ErrDeep
			}
			stack = append(stack, &frame{place: i})
		case ')':
			if len(stack) == 1 {
				return regex.Node{}, i, api.ErrSyntax
			}
			top.endPart()
			stack = stack[:len(stack)-1]
			stack[len(stack)-1].add(group(regex.Alt, top.parts))
		case '|':
			top.endPart()
		case '*', '+', '?':
			if len(top.things) == 0 {
				return regex.Node{}, i, api.ErrSyntax
			}
			l := len(top.things) - 1
			top.things[l] = regex.Node{Op: 4 + strings.IndexByte("*+?", s[i]), Kids: []regex.Node{top.things[l]}}
		case '.':
			top.add(regex.Node{Op: regex.One, Set: regex.Set{1<<64 - 1, 1<<64 - 1, 1<<64 - 1, 1<<64 - 1}})
		case '^':
			top.add(regex.Node{Op: regex.Begin})
		case '$':
			top.add(regex.Node{Op: regex.End})
		case '[':
			n, n1, bad := modelSet(s, i)
			if bad >= 0 {
				return regex.Node{}, bad, api.ErrSyntax
			}
			top.add(n)
			size = n1
		case '\\':
			m := escape.FindString(runes(s[i:]))
			if m == "" {
				return regex.Node{}, i, api.ErrSyntax
			}
			top.add(one(string([]byte{meant(m)})))
			size = 2
		default:
			top.add(one(s[i : i+1]))
		}
		i += size
	}
	top := stack[len(stack)-1]
	if len(stack) > 1 {
		return regex.Node{}, top.place, api.ErrSyntax
	}
	top.endPart()
	return group(regex.Alt, top.parts), 0, api.OK
}

func checkModel(t *testing.T, s string) {
	t.Helper()
	want, wantAt, wantE := model(s)
	if n, at, e := regex.Parse(s); e != wantE || at != wantAt || !alike(n, want) {
		t.Fatalf("Parse(%q): %s, %d at %d, want %s, %d at %d", s, regex.Print(n), e, at, regex.Print(want), wantE, wantAt)
	}
}

// each goes through all texts of so many of the signs.
func each(signs string, n int, do func(string)) {
	text := make([]byte, n)
	var fill func(int)
	fill = func(i int) {
		if i == n {
			do(string(text))
			return
		}
		for k := range len(signs) {
			text[i] = signs[k]
			fill(i + 1)
		}
	}
	fill(0)
}

// P9.1: each short text of the bytes that matter, outside of sets and within them.
func TestEachPattern(t *testing.T) {
	for n := range 6 {
		each(`()|*?[]^\-a`, n, func(s string) { checkModel(t, s) })
	}
	for n := range 6 {
		each("]^-\\an\xff", n, func(s string) { checkModel(t, "["+s+"]b") })
	}
}

// draws are numbers of a rule, so that each run has the same ones.
type draws uint64

func (d *draws) next(below int) int {
	*d = *d*6364136223846793005 + 1442695040888963407
	return int(uint64(*d)>>33) % below
}

// pick: so many bytes of some signs.
func (d *draws) pick(signs string, n int) string {
	b := make([]byte, n)
	for i := range b {
		b[i] = signs[d.next(len(signs))]
	}
	return string(b)
}

// P9.1: long texts, with errors of each kind, of the bytes that matter and of all.
func TestLongPatterns(t *testing.T) {
	var d draws
	every := but("")
	for range 30000 {
		checkModel(t, d.pick(`(((()))|*+?[[]]^$.\\-abnt`+"\x00\x80\xff", d.next(40)))
		checkModel(t, d.pick("((((((()))))*ab|", d.next(320)))
		checkModel(t, "["+d.pick(`]^-\\anz!~-`+"\x00\xff", d.next(30))+d.pick(`]]\(`, 2))
		checkModel(t, d.pick(every, d.next(20)))
	}
}

// P9.1: patterns that are made together with what they are.
func TestMadePatterns(t *testing.T) {
	var d draws
	right := 0
	for range 30000 {
		s, want := d.pattern(4)
		if len(s) > regex.MaxBytes {
			checkRefused(t, []refused{{s, 0, api.ErrBig}})
			continue
		}
		check(t, []tree{{s, want}})
		right++
	}
	if right < 20000 {
		t.Errorf("only %d patterns", right)
	}
}

// pattern: one, and what it is; at most so deep.
func (d *draws) pattern(deep int) (string, regex.Node) {
	texts, kids := []string{}, []regex.Node{}
	for range d.next(3) + 1 {
		s, n := d.part(deep)
		texts, kids = append(texts, s), append(kids, n)
	}
	return strings.Join(texts, "|"), group(regex.Alt, kids)
}

func (d *draws) part(deep int) (string, regex.Node) {
	text, kids := "", []regex.Node{}
	for range d.next(4) {
		s, n := d.thing(deep)
		for d.next(3) == 0 {
			k := d.next(3)
			s, n = s+"*+?"[k:k+1], node(regex.Star+k, n)
		}
		text, kids = text+s, append(kids, n)
	}
	return text, group(regex.Cat, kids)
}

func (d *draws) thing(deep int) (string, regex.Node) {
	switch k := d.next(9); {
	case k < 3 && deep > 0:
		s, n := d.pattern(deep - 1)
		return "(" + s + ")", n
	case k == 3:
		return ".", one(but(""))
	case k == 4:
		return "^", begin
	case k == 5:
		return "$", end
	case k == 6:
		s := d.pick(special+"-/~] ", 1)
		return `\` + s, one(s)
	case k == 7:
		low, size := d.next(200)+1, d.next(40)
		x, y := string([]byte{byte(low)}), string([]byte{byte(low + size)})
		if strings.ContainsAny(x+y, `\]^`) {
			return "[^]x-z]", one(but("]xyz"))
		}
		return "[" + x + "-" + y + "+]", one(from(low, low+size) + "+")
	}
	s := d.pick("abc-]}\x00\xff", 1)
	return s, one(s)
}

// P9.2: a pattern in ( and ) is itself, and two patterns with | between are one of both.
func TestBrackets(t *testing.T) {
	var d draws
	for range 30000 {
		s, want := d.pattern(3)
		if len(s) > 140 {
			continue
		}
		deep := d.next(16) + 1
		in := strings.Repeat("(", deep) + s + strings.Repeat(")", deep)
		check(t, []tree{{in, want}, {in + "*", star(want)}, {"(" + s + ")|(" + s + ")", alt(want, want)}, {"a(" + s + ")", cat(a, want)}})
	}
}

// P9.2: of two patterns with | between, the parts are those of both.
func TestEither(t *testing.T) {
	var d draws
	for range 30000 {
		first, n := d.part(2)
		text, parts := first, []regex.Node{n}
		for range d.next(3) + 1 {
			s, n := d.part(2)
			text, parts = text+"|"+s, append(parts, n)
			if len(text) < 140 {
				both := group(regex.Alt, parts)
				check(t, []tree{{text, both}, {"(" + text + ")|" + s, alt(both, n)}, {"(" + text + ")|(" + text + ")", alt(both, both)}})
			}
		}
	}
}
