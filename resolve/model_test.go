package resolve_test

import (
	"slices"
	"strconv"
	"strings"
	"testing"

	"scribe/api"
	"scribe/ast"
	"scribe/parse"
	"scribe/resolve"
)

// met is a node with all that stands above it, the item first, and which kid of the one above it is.
type met struct {
	above []ast.Node
	n     ast.Node
	kid   int
}

// walk: all nodes of the items, in order.
func walk(program ast.Node) []met {
	var l []met
	var go1 func(above []ast.Node, n ast.Node, kid int)
	go1 = func(above []ast.Node, n ast.Node, kid int) {
		l = append(l, met{above, n, kid})
		for i, x := range n.Kids {
			go1(append(slices.Clone(above), n), x, i)
		}
	}
	for _, item := range program.Kids {
		go1(nil, item, 0)
	}
	return l
}

// model is the chapter's words on Resolve. Names are written with their function's ahead, and groups of names that are handed to one another have one mark.
type model struct {
	nodes  []met
	params map[string][]string
	mark   map[string]string
	array  map[string]bool // by mark
}

func newModel(program ast.Node) *model {
	m := &model{walk(program), map[string][]string{}, map[string]string{}, map[string]bool{}}
	for _, item := range program.Kids {
		if _, ok := m.params[item.Text]; item.Op == "func" && !ok {
			m.params[item.Text] = []string{}
			for _, kid := range item.Kids[:len(item.Kids)-1] {
				m.params[item.Text] = append(m.params[item.Text], kid.Text)
			}
		}
	}
	for _, x := range m.nodes {
		if x.n.Op == "var" && len(x.above) > 0 && x.above[len(x.above)-1].Op == "call" {
			call := x.above[len(x.above)-1].Text
			if params := m.params[call]; x.kid < len(params) {
				m.join(m.whole(x), call+"."+params[x.kid])
			}
		}
	}
	for _, x := range m.nodes {
		if slices.Contains([]string{"index", "in", "name"}, x.n.Op) {
			m.array[m.markOf(m.whole(x))] = true
		}
	}
	return m
}

// function: the name of the function that a node stands in, or nothing.
func (x met) function() string {
	if len(x.above) > 0 && x.above[0].Op == "func" {
		return x.above[0].Text
	}
	return ""
}

// whole: a node's name, with its function's ahead.
func (m *model) whole(x met) string {
	if f := x.function(); f != "" && slices.Contains(m.params[f], x.n.Text) {
		return f + "." + x.n.Text
	}
	return "." + x.n.Text
}

func (m *model) markOf(name string) string {
	if mark, ok := m.mark[name]; ok {
		return mark
	}
	return name
}

// join gives two names' groups one mark.
func (m *model) join(a, b string) {
	from, to := m.markOf(a), m.markOf(b)
	m.mark[a], m.mark[b] = from, to
	for name, mark := range m.mark {
		if mark == from {
			m.mark[name] = to
		}
	}
}

func (m *model) isArray(name string) bool {
	return m.array[m.markOf(name)]
}

// wrong: what is wrong with a node, and at which one.
func (m *model) wrong(x met) (ast.Node, api.Errno) {
	_, function := m.params[x.n.Text]
	array := slices.Contains([]string{"index", "in", "name"}, x.n.Op)
	if len(x.above) > 0 {
		call := x.above[len(x.above)-1]
		if call.Op == "call" && m.isArray(call.Text+"."+m.params[call.Text][x.kid]) {
			if array = true; x.n.Op != "var" {
				return call, api.ErrKind
			}
		}
	}
	inLoop := slices.ContainsFunc(x.above, func(n ast.Node) bool { return strings.Contains("while forin", n.Op) })
	switch x.n.Op {
	case "var", "forin", "index", "in", "name":
		special := strings.HasPrefix(m.whole(x), ".") && slices.Contains(strings.Fields(specials), x.n.Text)
		if function || m.isArray(m.whole(x)) != array || array && special {
			return x.n, api.ErrKind
		}
	case "call":
		if !function || len(x.n.Kids) > len(m.params[x.n.Text]) {
			return x.n, api.ErrKind
		}
	case "param":
		if earlier := x.above[0].Kids[:x.kid]; function || slices.Contains(strings.Fields(specials), x.n.Text) || slices.ContainsFunc(earlier, func(n ast.Node) bool { return n.Text == x.n.Text }) {
			return x.n, api.ErrKind
		}
	case "break", "continue":
		if !inLoop {
			return x.n, api.ErrSyntax
		}
	case "return":
		if x.above[0].Op != "func" {
			return x.n, api.ErrSyntax
		}
	case "next":
		if x.above[0].Op != "rule" {
			return x.n, api.ErrSyntax
		}
	}
	return ast.Node{}, api.OK
}

// resolve: what Resolve has to answer; the Info as short tells it.
func (m *model) resolve() (string, int, api.Errno) {
	var funcs, globals, items []string
	for _, x := range m.nodes {
		if x.n.Op == "func" {
			if slices.Contains(items, x.n.Text) {
				return "nil", x.n.At, api.ErrKind
			}
			items = append(items, x.n.Text)
			var l []string
			for _, p := range m.params[x.n.Text] {
				if m.isArray(x.n.Text + "." + p) {
					p += "[]"
				}
				l = append(l, p)
			}
			funcs = append(funcs, x.n.Text+"("+strings.Join(l, " ")+") ")
		}
		if at, e := m.wrong(x); e != api.OK {
			return "nil", at.At, e
		}
		name := m.whole(x)
		if slices.Contains([]string{"var", "forin", "index", "in", "name"}, x.n.Op) && name[0] == '.' {
			if m.isArray(name) {
				name += "[]"
			}
			if !slices.Contains(globals, name[1:]) {
				globals = append(globals, name[1:])
			}
		}
	}
	return strings.Join(funcs, "") + "| " + strings.Join(globals, " "), 0, api.OK
}

// draws are numbers of a rule, so that each run has the same ones.
type draws uint64

func (d *draws) next(below int) int {
	*d = *d*6364136223846793005 + 1442695040888963407
	return int(uint64(*d)>>33) % below
}

func (d *draws) pick(l ...string) string {
	return l[d.next(len(l))]
}

// writer writes programs of few names, so that these are met often. A name's first letter says what it is to be, mostly: s and p single values, a and q arrays.
type writer struct {
	*draws
	calls map[string]string // the params of functions, a letter each
	wild  int               // a name is any one in one of so many cases
	in    string            // the names of the function that is written
	deep  int
}

func (w *writer) name(letters string) string {
	if w.next(w.wild) == 0 {
		return w.pick("s0", "s1", "s2", "a0", "a1", "a2", "p0", "p1", "q0", "q1", "f0", "f1", "f2", "NR", "NF", "FS")
	}
	if letters == "sp" && w.next(12) == 0 {
		return w.pick("NR", "NF", "ORS", "FILENAME")
	}
	var l []string
	for _, c := range letters {
		switch c {
		case 'p', 'q':
			if i := strings.IndexRune(w.in, c); i >= 0 {
				l = append(l, string(c)+strconv.Itoa(i))
			}
		default:
			l = append(l, string(c)+strconv.Itoa(w.next(3)))
		}
	}
	return w.pick(l...)
}

func (w *writer) value() string {
	w.deep++
	defer func() { w.deep-- }()
	if w.deep > 4 {
		return w.name("sp")
	}
	switch w.next(12) {
	case 0:
		return w.name("aq") + "[" + w.value() + "]"
	case 1:
		return "(" + w.value() + " in " + w.name("aq") + ")"
	case 2, 3, 4:
		return w.call()
	case 5:
		return "((" + w.value() + ")" + w.pick("+", "<", " ", "~") + "(" + w.value() + "))"
	case 6:
		return "(" + w.name("sp") + w.pick("=", "+=") + w.value() + ")"
	case 7:
		return "split(" + w.value() + "," + w.name("aq") + w.pick("", ","+w.name("sp")) + ")"
	case 8:
		return w.pick("-", "!", "$", "++") + w.name("sp")
	case 9:
		return "1"
	}
	return w.name("sp")
}

func (w *writer) call() string {
	f := "f" + strconv.Itoa(w.next(3))
	params := w.calls[f]
	count := len(params)
	if w.next(4) == 0 && count > 0 {
		count--
	}
	if w.next(w.wild) == 0 {
		count++
	}
	var l []string
	for i := range count {
		switch {
		case i < len(params) && params[i] == 'q' && w.next(w.wild) > 0:
			l = append(l, w.name("aq"))
		case w.next(3) > 0:
			l = append(l, w.name("sp"))
		default:
			l = append(l, "("+w.value()+")")
		}
	}
	return f + "(" + strings.Join(l, ",") + ")"
}

func (w *writer) statement(item string) string {
	w.deep++
	defer func() { w.deep-- }()
	kind := w.next(14)
	if w.deep > 3 {
		kind = 9
	}
	loop := strings.ReplaceAll(item, "0", "1")
	switch kind {
	case 0:
		return "if((" + w.value() + "))" + w.statement(item) + w.pick("", ";else "+w.statement(item))
	case 1:
		return "while((" + w.value() + ")){" + w.statement(loop) + "}"
	case 2:
		return "for(" + w.value() + ";" + w.value() + ";){" + w.statement(loop) + "}"
	case 3:
		return "for(" + w.name("sp") + " in " + w.name("aq") + "){" + w.statement(loop) + "}"
	case 4:
		return "delete " + w.name("aq") + w.pick("", "["+w.value()+"]") + ";"
	case 5:
		return "print " + w.value() + w.pick("", ","+w.name("sp"), ">"+w.name("sp"), ">>("+w.value()+")") + ";"
	case 6:
		return "{" + w.statement(item) + w.statement(item) + "}"
	case 7:
		return w.jump(item) + ";"
	}
	return w.value() + ";"
}

// jump: a statement that leaves something; mostly such as may stand in the item, in a loop (1) or not (0).
func (w *writer) jump(item string) string {
	if w.next(w.wild) == 0 {
		return w.pick("break", "continue", "next", "return", "return 1")
	}
	l := []string{"exit", "exit " + w.name("sp")}
	if strings.Contains(item, "1") {
		l = append(l, "break", "continue", "break", "continue")
	}
	if strings.Contains(item, "rule") {
		l = append(l, "next", "next")
	}
	if strings.Contains(item, "func") {
		l = append(l, "return", "return "+w.name("sp"))
	}
	return w.pick(l...)
}

func (w *writer) body(item string) string {
	var out strings.Builder
	for range w.next(4) {
		out.WriteString(w.statement(item + "0"))
	}
	return "{" + out.String() + "}"
}

// function writes one, with params that its letters say.
func (w *writer) function(name string) string {
	w.in = w.calls[name]
	defer func() { w.in = "" }()
	var l []string
	for i, c := range w.in {
		p := string(c) + strconv.Itoa(i)
		if w.next(w.wild) == 0 {
			p = w.name("spaq")
		}
		l = append(l, p)
	}
	return "function " + name + "(" + strings.Join(l, ",") + ")" + w.body("func")
}

// write: the items of a program.
func (d *draws) write() []string {
	w := writer{draws: d, calls: map[string]string{}, wild: []int{1000, 200, 40, 15}[d.next(4)]}
	for i := range 3 {
		w.calls["f"+strconv.Itoa(i)] = w.pick("", "p", "q", "pq", "qp", "qq", "pqp")
	}
	var items []string
	for i := range 3 {
		if w.next(30) > 0 {
			items = append(items, w.function("f"+strconv.Itoa(i)))
		}
		if w.next(w.wild) == 0 {
			items = append(items, w.function(w.pick("f0", "f1", "f2", "s0", "NR", "a1")))
		}
	}
	for range 1 + w.next(3) {
		items = append(items, w.pick("BEGIN"+w.body("begin"), "END"+w.body("end"), w.body("rule"), w.value()+w.body("rule"), w.value()+";"))
	}
	for i := range items {
		k := w.next(i + 1)
		items[i], items[k] = items[k], items[i]
	}
	return items
}

// P14.1: programs that are right, nearly right and wrong are answered as the model says.
func TestModel(t *testing.T) {
	var d draws
	right, kinds, syntaxes := 0, 0, 0
	for range 40000 {
		s := strings.Join(d.write(), "\n")
		n, at, e := parse.Parse(s)
		if e != api.OK {
			if e != api.ErrBig && e != api.ErrDeep {
				t.Fatalf("Parse(%q): %d at %d", s, e, at)
			}
			continue
		}
		want, wantAt, wantE := newModel(n).resolve()
		x, at, e := resolve.Resolve(n)
		if short(x) != want || at != wantAt || e != wantE {
			t.Fatalf("Resolve(%q): %s, %d at %d, want %s, %d at %d", s, short(x), e, at, want, wantE, wantAt)
		}
		switch e {
		case api.OK:
			right++
			checkBodies(t, s, n, x)
		case api.ErrKind:
			kinds++
		default:
			syntaxes++
		}
	}
	if right < 4000 || kinds < 4000 || syntaxes < 200 {
		t.Errorf("%d are right, of %d a kind is wrong, of %d another thing", right, kinds, syntaxes)
	}
}
