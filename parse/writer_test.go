package parse_test

import (
	"slices"
	"strings"

	"scribe/ast"
)

// draws are numbers of a rule, so that each run has the same ones.
type draws uint64

func (d *draws) next(below int) int {
	*d = *d*6364136223846793005 + 1442695040888963407
	return int(uint64(*d)>>33) % below
}

func (d *draws) pick(l string) string {
	words := strings.Fields(l)
	return words[d.next(len(words))]
}

// writer writes programs, a token behind the other, and tells their trees. The places of nodes are the numbers of tokens, from 1 on.
type writer struct {
	*draws
	tokens []string
	size   int // how much is to be written yet
	deep   int
	over   int   // the token with which the first level too much begins, from 1 on
	gaps   []int // behind so many tokens ; and Newlines may stand
}

func (w *writer) put(l ...string) int {
	w.tokens = append(w.tokens, l...)
	return len(w.tokens)
}

// level: what is written lies a level deeper.
func (w *writer) level(write func() ast.Node) ast.Node {
	w.deep++
	if w.deep > 50 && w.over == 0 {
		w.over = len(w.tokens) + 1
	}
	n := write()
	w.deep--
	return n
}

// chance: true in one of so many cases, and never when little is to be written.
func (w *writer) chance(of int) bool {
	w.size--
	return w.size > 0 && w.next(of) == 0
}

// end: what may end a statement or an item.
func (w *writer) end() string {
	return []string{";", "\n"}[w.next(2)]
}

// newlines writes some, or none.
func (w *writer) newlines() {
	for w.next(8) == 0 {
		w.put("\n")
	}
}

func node(op string, kids ...ast.Node) ast.Node {
	return ast.Node{Op: op, Kids: kids}
}

// named: a node of the last token.
func (w *writer) named(op string, kids ...ast.Node) ast.Node {
	at := len(w.tokens)
	return ast.Node{Op: op, Text: text(w.tokens[at-1]), At: at, Kids: kids}
}

// text: what a token's text is.
func text(token string) string {
	if len(token) > 1 && (token[0] == '"' || token[0] == '/' && token != "/=") {
		return token[1 : len(token)-1]
	}
	return token
}

const (
	names     = "a b k m NR x1 _y"
	functions = "f g h_2"
	numbers   = "0 1 2.5 .75 3."
	strs      = `"" "x" "#" "(" "|"`
	patterns  = `/x/ /[a-z]+/ // /(b|c)$/`
)

// bracketed writes what stands between two signs.
func (w *writer) bracketed(opening, closing string, write func() ast.Node) ast.Node {
	w.put(opening)
	w.newlines()
	n := write()
	w.newlines()
	w.put(closing)
	return n
}

// within: an expression in brackets; there > compares.
func (w *writer) within(opening, closing string) ast.Node {
	return w.bracketed(opening, closing, func() ast.Node { return w.expression(false) })
}

// list writes so many expressions in brackets.
func (w *writer) list(n int) []ast.Node {
	return w.bracketed("(", ")", func() ast.Node { return w.row(n, false) }).Kids
}

func (w *writer) row(n int, printing bool) ast.Node {
	var l []ast.Node
	for i := range n {
		if i > 0 {
			w.put(",")
			w.newlines()
		}
		l = append(l, w.expression(printing))
	}
	return node("", l...)
}

func (w *writer) name(op string) ast.Node {
	w.put(w.pick(names))
	return w.named(op)
}

// place writes what a value can be laid in.
func (w *writer) place() ast.Node {
	switch {
	case w.chance(6):
		return w.bracketed("(", ")", func() ast.Node { return w.level(w.place) })
	case w.chance(3):
		w.put("$")
		return node("field", w.level(w.dollar))
	case w.chance(3):
		n := w.name("index")
		n.Kids = []ast.Node{w.within("[", "]")}
		return n
	}
	return w.name("var")
}

// dollar writes what stands behind a $.
func (w *writer) dollar() ast.Node {
	if w.chance(5) {
		return w.pre()
	}
	return w.primary(true)
}

func (w *writer) pre() ast.Node {
	i := w.next(2)
	w.put([]string{"++", "--"}[i])
	return node([]string{"preinc", "predec"}[i], w.place())
}

// primary writes one; a Regex where a slash begins one.
func (w *writer) primary(regex bool) ast.Node {
	switch w.next(12) {
	case 0, 1:
		w.put(w.pick(numbers))
		return w.named("num")
	case 2:
		w.put(w.pick(strs))
		return w.named("str")
	case 3:
		if regex {
			w.put(w.pick(patterns))
			return w.named("re")
		}
	case 4:
		w.put(w.pick(functions))
		n := w.named("call")
		n.Kids = w.list(min(w.next(4), max(w.size, 0)))
		return n
	case 5, 6:
		if w.size > 0 {
			return w.builtin()
		}
	case 7:
		if w.size > 0 {
			return w.within("(", ")")
		}
	}
	return w.place()
}

// builtin writes a function of the language with its arguments.
func (w *writer) builtin() ast.Node {
	x := takes[w.next(len(takes))]
	w.put(x.name)
	n := w.named("builtin")
	count := x.least + w.next(min(x.most, x.least+2)-x.least+1)
	if x.name == "length" && count == 0 && w.next(2) == 0 {
		return n
	}
	n.Kids = w.bracketed("(", ")", func() ast.Node {
		var l []ast.Node
		for i := range count {
			if i > 0 {
				w.put(",")
				w.newlines()
			}
			switch {
			case i == 1 && x.name == "split":
				l = append(l, w.level(func() ast.Node { return w.name("name") }))
			case i == 2 && strings.HasSuffix(x.name, "sub"):
				l = append(l, w.level(w.place))
			default:
				l = append(l, w.expression(false))
			}
		}
		return node("", l...)
	}).Kids
	if strings.HasSuffix(x.name, "sub") && count == 2 {
		n.Kids = append(n.Kids, node("field", ast.Node{Op: "num", Text: "0", At: n.At}))
	}
	return n
}

// post writes what binds closer than a sign ahead of it; value: it is to go on side by side.
func (w *writer) post(value bool) ast.Node {
	switch {
	case !value && w.chance(8):
		return w.pre()
	case w.chance(8):
		n := w.place()
		i := w.next(2)
		w.put([]string{"++", "--"}[i])
		return node([]string{"postinc", "postdec"}[i], n)
	}
	return w.primary(!value)
}

func (w *writer) unary(value bool) ast.Node {
	if !value && w.chance(6) {
		i := w.next(3)
		w.put([]string{"!", "-", "+"}[i])
		return node([]string{"not", "neg", "plus"}[i], w.level(func() ast.Node { return w.unary(false) }))
	}
	return w.post(value)
}

// between writes parts of a row of signs, from the left to the right.
func (w *writer) between(signs [][2]string, value bool, part func(value bool) ast.Node) ast.Node {
	n := part(value)
	for w.chance(7) {
		x := signs[w.next(len(signs))]
		w.put(x[0])
		if x[0] == "&&" || x[0] == "||" {
			w.newlines()
		}
		n = node(x[1], n, part(false))
	}
	return n
}

func (w *writer) product(value bool) ast.Node {
	return w.between(between[6], value, w.unary)
}

func (w *writer) sum(value bool) ast.Node {
	return w.between(between[5], value, w.product)
}

func (w *writer) sideBySide(value bool) ast.Node {
	n := w.sum(value)
	for w.chance(6) {
		before := len(w.tokens)
		right := w.sum(true)
		if w.tokens[before-1] == "length" && w.tokens[before] == "(" {
			// The brackets would be those of length.
			w.insert(before, "(", ")")
			right = moved(right, 2)
		}
		n = node("cat", n, right)
	}
	return n
}

// insert puts some behind so many tokens.
func (w *writer) insert(before int, l ...string) {
	w.tokens = slices.Insert(w.tokens, before, l...)
	if w.over > before {
		w.over += len(l)
	}
	for i, gap := range w.gaps {
		if gap > before {
			w.gaps[i] += len(l)
		}
	}
}

// moved: a tree whose places lie so many tokens later.
func moved(n ast.Node, by int) ast.Node {
	if n.At > 0 {
		n.At += by
	}
	kids := slices.Clone(n.Kids)
	for i, kid := range kids {
		kids[i] = moved(kid, by)
	}
	n.Kids = kids
	return n
}

func (w *writer) rel(printing bool) func(bool) ast.Node {
	return func(value bool) ast.Node {
		n := w.sideBySide(value)
		if !w.chance(6) {
			return n
		}
		x := between[3][w.next(6)]
		if printing && x[0] == ">" {
			x = between[3][0]
		}
		w.put(x[0])
		return node(x[1], n, w.sideBySide(false))
	}
}

func (w *writer) in(printing bool) func(bool) ast.Node {
	return func(bool) ast.Node {
		n := w.between(between[2], false, w.rel(printing))
		for w.chance(8) {
			w.put("in")
			kid := n
			n = w.name("in")
			n.Kids = []ast.Node{kid}
		}
		return n
	}
}

// expression writes one, a level deeper.
func (w *writer) expression(printing bool) ast.Node {
	return w.level(func() ast.Node {
		if w.chance(8) {
			n := w.place()
			sign := w.pick(assigning)
			w.put(sign)
			w.newlines()
			return ast.Node{Op: "assign", Text: sign, Kids: []ast.Node{n, w.expression(printing)}}
		}
		and := func(bool) ast.Node { return w.between(between[1], false, w.in(printing)) }
		n := w.between(between[0], false, and)
		if !w.chance(9) {
			return n
		}
		w.put("?")
		w.newlines()
		yes := w.expression(printing)
		w.newlines()
		w.put(":")
		w.newlines()
		return node("cond", n, yes, w.expression(printing))
	})
}

// word: a node whose place is that of its word.
func (w *writer) word(op string, kids ...ast.Node) ast.Node {
	return ast.Node{Op: op, At: w.put(op), Kids: kids}
}

// simple writes a statement without what ends it; inFor: it stands in the brackets of a for.
func (w *writer) simple(inFor bool) ast.Node {
	switch w.next(9) {
	case 0:
		return w.word(w.pick("break continue next"))
	case 1:
		n := w.word(w.pick("exit return"))
		if w.next(2) == 0 {
			n.Kids = []ast.Node{w.expression(false)}
		}
		return n
	case 2:
		w.put("delete")
		n := w.name("name")
		if w.next(2) == 0 {
			n.Op, n.Kids = "index", []ast.Node{w.within("[", "]")}
		}
		return node("delete", n)
	case 3, 4, 5:
		return w.print(inFor)
	}
	return node("expr", w.expression(false))
}

func (w *writer) print(inFor bool) ast.Node {
	op := w.pick("print printf")
	before := w.put(op)
	count := w.next(3)
	if op == "printf" {
		count++
	}
	var l []ast.Node
	if !inFor && w.next(3) == 0 {
		l = w.list(count)
	} else if l = w.row(count, true).Kids; count > 0 && w.tokens[before] == "(" {
		// It might be read as a list in brackets, with other levels.
		return node("expr", w.replace(before-1))
	}
	to := node("none")
	switch w.next(5) {
	case 0:
		w.put(">")
		to = node("to", w.sideBySide(false))
	case 1:
		w.put(">>")
		to = node("append", w.sideBySide(false))
	}
	return node(op, append([]ast.Node{to}, l...)...)
}

// replace takes back all behind so many tokens, and writes an expression in its place.
func (w *writer) replace(from int) ast.Node {
	w.tokens = w.tokens[:from]
	if w.over > from {
		w.over = 0
	}
	return w.expression(false)
}

// statement writes one; closed: it may stand ahead of an else of what is around it, and has what ends it.
func (w *writer) statement(closed bool) ast.Node {
	return w.level(func() ast.Node {
		if w.size <= 0 || w.next(3) > 0 {
			n := w.simple(false)
			w.put(w.end())
			return n
		}
		switch w.next(6) {
		case 0:
			return w.block()
		case 1:
			w.put(";")
			return node("empty")
		case 2:
			w.put("while")
			n := w.within("(", ")")
			return node("while", n, w.body(closed))
		case 3:
			return w.loop(closed)
		}
		return w.choice(closed)
	})
}

func (w *writer) choice(closed bool) ast.Node {
	w.put("if")
	kids := []ast.Node{w.within("(", ")")}
	if !closed && w.next(2) == 0 {
		return node("if", append(kids, w.body(false))...)
	}
	kids = append(kids, w.body(true))
	w.newlines()
	if w.next(3) == 0 {
		w.put(";")
		w.newlines()
	}
	w.put("else")
	return node("if", append(kids, w.body(closed))...)
}

func (w *writer) loop(closed bool) ast.Node {
	w.put("for")
	var first ast.Node
	if w.next(2) == 0 {
		second := w.bracketed("(", ")", func() ast.Node {
			first = w.name("forin")
			w.put("in")
			return w.name("name")
		})
		first.Kids = []ast.Node{second, w.body(closed)}
		return first
	}
	kids := w.bracketed("(", ")", func() ast.Node {
		l := []ast.Node{node("none"), node("none"), node("none")}
		if w.next(2) == 0 {
			l[0] = w.simple(true)
		}
		w.put(";")
		w.newlines()
		if w.next(2) == 0 {
			l[1] = w.expression(false)
		}
		w.put(";")
		w.newlines()
		if w.next(2) == 0 {
			l[2] = w.simple(true)
		}
		return node("", l...)
	}).Kids
	return node("for", append(kids, w.body(closed))...)
}

func (w *writer) body(closed bool) ast.Node {
	w.newlines()
	before := len(w.tokens)
	n := w.statement(closed)
	if w.tokens[before][0] == '/' && w.tokens[before-1] == ")" {
		// Behind a ) the slash would divide.
		w.insert(before, "\n")
		n = moved(n, 1)
	}
	return n
}

// separators writes ; and Newlines, perhaps none.
func (w *writer) separators() {
	w.gaps = append(w.gaps, len(w.tokens))
	for w.next(3) == 0 {
		w.put(w.end())
	}
}

func (w *writer) block() ast.Node {
	w.put("{")
	var l []ast.Node
	for w.separators(); w.next(3) > 0; w.separators() {
		n := w.statement(false)
		if n.Op == "empty" {
			continue // among statements a ; is none
		}
		l = append(l, n)
		if lastIsSimple(n) && w.next(8) == 0 {
			w.tokens = w.tokens[:len(w.tokens)-1]
			break
		}
	}
	w.put("}")
	return node("block", l...)
}

// lastIsSimple: does a statement end with a simple one, so that a } may end it?
func lastIsSimple(n ast.Node) bool {
	switch n.Op {
	case "block", "empty":
		return false
	case "if", "while", "for", "forin":
		return lastIsSimple(n.Kids[len(n.Kids)-1])
	}
	return true
}

// program writes items.
func (w *writer) program() ast.Node {
	var l []ast.Node
	for w.separators(); w.next(6) > 0; w.separators() {
		l = append(l, w.item())
	}
	return node("program", l...)
}

func (w *writer) item() ast.Node {
	switch w.next(6) {
	case 0:
		w.put("BEGIN")
		return node("begin", w.block())
	case 1:
		w.put("END")
		return node("end", w.block())
	case 2:
		w.put("function", w.pick(names+" "+functions))
		n := w.named("func")
		n.Kids = w.bracketed("(", ")", func() ast.Node {
			var l []ast.Node
			for i := range w.next(4) {
				if i > 0 {
					w.put(",")
					w.newlines()
				}
				l = append(l, w.name("param"))
			}
			return node("", l...)
		}).Kids
		w.newlines()
		n.Kids = append(n.Kids, w.block())
		return n
	case 3:
		return node("rule", node("always"), w.block())
	case 4:
		n := w.expression(false)
		w.put(w.end())
		return node("rule", n, node("default"))
	}
	n := w.expression(false)
	return node("rule", n, w.block())
}

// lay: a text of the tokens, with blanks of all sorts between, and where each one begins.
func (w *writer) lay() (string, []int) {
	var out strings.Builder
	var places []int
	for i, s := range w.tokens {
		if s == "\n" && w.next(4) == 0 {
			out.WriteString("# } \" / \\")
		}
		places = append(places, out.Len())
		out.WriteString(s)
		switch {
		case i+1 == len(w.tokens), slices.Contains(strings.Fields(functions), s) && w.tokens[i+1] == "(":
		case w.next(3) > 0 && (strings.Contains("\n{};,[]", s) || strings.Contains("\n{};,)[]", w.tokens[i+1])):
		default:
			out.WriteString(strings.Repeat([]string{" ", "\t", "\r", "\\\n", " \t "}[w.next(5)], 1+w.next(2)))
		}
	}
	return out.String(), append(places, out.Len())
}

// laid: a tree with the places of a text.
func laid(n ast.Node, places []int) ast.Node {
	if n.At > 0 {
		n.At = places[n.At-1]
	}
	for i := range n.Kids {
		n.Kids[i] = laid(n.Kids[i], places)
	}
	return n
}
