package code_test

import (
	"fmt"
	"math/rand"
	"slices"
	"strconv"
	"strings"
	"testing"

	"scribe/ast"
	"scribe/code"
	"scribe/num"
	"scribe/parse"
	"scribe/resolve"
)

// trace is what a program does, deed by deed, whatever its values are: each deed makes one that has a name of its own, and whether a value is true, or whether there is one more key, is drawn.
type trace struct {
	log  []string
	draw func() bool
	made int
	left int // so many more things are done, before the program is cut off
	cut  bool
}

// over ends a program, skip what is done for a record.
type over struct{}
type skip struct{}

func (t *trace) tick() {
	if t.left--; t.left < 0 {
		t.cut = true
		panic(over{})
	}
}

// do logs a deed without a value.
func (t *trace) do(deed string, l ...string) {
	t.tick()
	t.log = append(t.log, deed+"("+strings.Join(l, ",")+")")
}

// make1 logs a deed, and answers its value's name.
func (t *trace) make1(deed string, l ...string) string {
	t.made++
	name := "t" + strconv.Itoa(t.made)
	t.do(name+"="+deed, l...)
	return name
}

// ask: is this value true?
func (t *trace) ask(value string) bool {
	yes := t.draw()
	t.do(fmt.Sprint(yes, "?"), value)
	return yes
}

// part does one; false: the program is over.
func (t *trace) part(do func()) (on bool) {
	defer func() {
		if x := recover(); x != nil {
			if _, ok := x.(over); !ok {
				if _, on = x.(skip); !on {
					panic(x)
				}
			}
		}
	}()
	do()
	return true
}

// run does all parts, the one for records twice.
func (t *trace) run(begin, record, end func()) {
	for _, part := range []func(){begin, record, record, end} {
		if !t.part(part) {
			return
		}
	}
}

// machine goes through steps.
type machine struct {
	trace
	p *code.Program
}

// constant is the name of a value that is only pushed.
func constant(n num.Num) string {
	return "#" + n.Text()
}

func quoted(s string) string {
	return strconv.Quote(s)
}

// where: the name of variable a of b.
func where(a, b int) string {
	return fmt.Sprintf("%d.%d", b, a)
}

// through goes through a part or a function, and answers what a function gives back.
func (m *machine) through(at int) string {
	var stack []string
	pop := func(n int) []string {
		l := slices.Clone(stack[len(stack)-n:])
		stack = stack[:len(stack)-n]
		return l
	}
	push := func(s ...string) { stack = append(stack, s...) }
	for {
		x := m.p.Code[at]
		at++
		if x.Op == code.Jump {
			m.tick()
		}
		laid := func(how, below int) (string, []string) {
			if how <= 5 {
				below++
			}
			return " " + strconv.Itoa(how), pop(below)
		}
		switch x.Op {
		case code.Num:
			push(constant(m.p.Nums[x.A]))
		case code.Str:
			push(quoted(m.p.Strs[x.A]))
		case code.Get:
			push(m.make1("get " + where(x.A, x.B)))
		case code.Field:
			push(m.make1("field", pop(1)...))
		case code.Elem:
			push(m.make1("elem "+where(x.A, x.B), pop(1)...))
		case code.Set:
			how, l := laid(x.B/2, 0)
			push(m.make1("set "+where(x.A, x.B%2)+how, l...))
		case code.SetField:
			how, l := laid(x.B, 1)
			push(m.make1("setfield"+how, l...))
		case code.SetElem:
			how, l := laid(x.B/2, 1)
			push(m.make1("setelem "+where(x.A, x.B%2)+how, l...))
		case code.Binary:
			push(m.make1(fmt.Sprint("binary ", x.A), pop(2)...))
		case code.Unary:
			push(m.make1(fmt.Sprint("unary ", x.A), pop(1)...))
		case code.Match:
			push(m.make1(fmt.Sprint("match ", x.A), pop(2)...))
		case code.In:
			push(m.make1("in "+where(x.A, x.B), pop(1)...))
		case code.Delete:
			m.do("delete "+where(x.A, x.B), pop(1)...)
		case code.Clear:
			m.do("clear " + where(x.A, x.B))
		case code.Jump:
			at = x.A
		case code.JumpIf, code.JumpNot:
			if m.ask(pop(1)[0]) == (x.Op == code.JumpIf) {
				at = x.A
			}
		case code.Pop:
			pop(1)
		case code.Bool:
			push(m.make1("bool", pop(1)...))
		case code.Dup:
			push(stack[len(stack)-1])
		case code.Call:
			m.do(fmt.Sprint("call ", x.A), pop(x.B)...)
			push(m.through(m.p.Funcs[x.A].Entry))
		case code.Ref:
			push("array " + where(x.A, x.B))
		case code.Return:
			m.do("return", stack[len(stack)-1])
			return stack[len(stack)-1]
		case code.Builtin:
			n := x.B
			if x.A == 3 && n == 4 {
				n = 3
			}
			push(m.make1(fmt.Sprint(code.Name(x.A), " ", x.B), pop(n)...))
		case code.Sub:
			push(m.make1(fmt.Sprint("sub ", x.A), pop(3)...))
		case code.Hits:
			push(m.make1("hits"))
		case code.Print, code.Printf:
			m.do(fmt.Sprint(map[int]string{code.Print: "print ", code.Printf: "printf "}[x.Op], x.B), pop(x.A+(x.B+1)/2)...)
		case code.Iter:
			m.do("iter " + where(x.A, x.B))
		case code.Step:
			if !m.ask("key") {
				at = x.A
				break
			}
			push(m.make1("key"))
		case code.Drop:
			m.do("drop")
		case code.Next:
			m.do("next")
			panic(skip{})
		case code.Exit:
			m.do("exit", pop(x.A)...)
			panic(over{})
		case code.Stop:
			m.do("stop")
			return ""
		}
	}
}

// walker goes through a tree, by the words of chapter 17.
type walker struct {
	trace
	tree     ast.Node
	names    *resolve.Info
	globals  []string
	function *resolve.Func
	result   string
}

func newWalker(tree ast.Node, names *resolve.Info) *walker {
	w := &walker{tree: tree, names: names, globals: strings.Fields("NR NF FS OFS ORS FILENAME RSTART RLENGTH")}
	for _, name := range names.Globals {
		if !slices.Contains(w.globals, name) {
			w.globals = append(w.globals, name)
		}
	}
	return w
}

// items does all of a kind.
func (w *walker) items(op string) func() {
	return func() {
		for _, item := range w.tree.Kids {
			switch {
			case item.Op != op:
			case op != "rule":
				w.statement(item.Kids[0])
			case item.Kids[0].Op == "always" || w.ask(w.value(item.Kids[0])):
				w.statement(item.Kids[1])
			}
		}
		w.do("stop")
	}
}

func (w *walker) variable(name string) string {
	if w.function != nil {
		if i := slices.Index(w.function.Params, name); i >= 0 {
			return where(i, 1)
		}
	}
	return where(slices.Index(w.globals, name), 0)
}

func (w *walker) values(l []ast.Node) []string {
	var out []string
	for _, n := range l {
		out = append(out, w.value(n))
	}
	return out
}

// read: what a place has, of the values that say what it is.
func (w *walker) read(n ast.Node, at []string) string {
	switch n.Op {
	case "var":
		return w.make1("get " + w.variable(n.Text))
	case "index":
		return w.make1("elem "+w.variable(n.Text), at...)
	}
	return w.make1("field", at...)
}

// lay lays a value, if there is one, in a place.
func (w *walker) lay(n ast.Node, how int, l ...string) string {
	switch n.Op {
	case "var":
		return w.make1(fmt.Sprint("set ", w.variable(n.Text), " ", how), l...)
	case "index":
		return w.make1(fmt.Sprint("setelem ", w.variable(n.Text), " ", how), l...)
	}
	return w.make1(fmt.Sprint("setfield ", how), l...)
}

func (w *walker) record() string {
	return w.make1("field", "#0")
}

// pattern: a re's own text, or a value.
func (w *walker) pattern(n ast.Node) string {
	if n.Op == "re" {
		return quoted(n.Text)
	}
	return w.value(n)
}

func (w *walker) value(n ast.Node) string {
	if i := slices.Index(strings.Fields("add sub mul div mod cat less lesseq equal notequal greater greatereq"), n.Op); i >= 0 {
		return w.make1(fmt.Sprint("binary ", i), w.values(n.Kids)...)
	}
	if i := slices.Index(strings.Fields("not neg plus"), n.Op); i >= 0 {
		return w.make1(fmt.Sprint("unary ", i), w.values(n.Kids)...)
	}
	if i := slices.Index(strings.Fields("preinc predec postinc postdec"), n.Op); i >= 0 {
		return w.lay(n.Kids[0], 6+i, w.values(n.Kids[0].Kids)...)
	}
	switch n.Op {
	case "num":
		x, _ := num.Prefix(n.Text)
		return constant(x)
	case "str":
		return quoted(n.Text)
	case "re":
		return w.make1("match 0", w.record(), quoted(n.Text))
	case "var", "index", "field":
		return w.read(n, w.values(n.Kids))
	case "assign":
		at := w.values(n.Kids[0].Kids)
		how := slices.Index(strings.Fields("= += -= *= /= %="), n.Text)
		return w.lay(n.Kids[0], how, append(at, w.value(n.Kids[1]))...)
	case "cond":
		if w.ask(w.value(n.Kids[0])) {
			return w.value(n.Kids[1])
		}
		return w.value(n.Kids[2])
	case "and":
		if !w.ask(w.value(n.Kids[0])) {
			return "#0"
		}
		return w.make1("bool", w.value(n.Kids[1]))
	case "or":
		if w.ask(w.value(n.Kids[0])) {
			return "#1"
		}
		return w.make1("bool", w.value(n.Kids[1]))
	case "match":
		return w.make1("match 0", w.value(n.Kids[0]), w.pattern(n.Kids[1]))
	case "nomatch":
		return w.make1("match 1", w.value(n.Kids[0]), w.pattern(n.Kids[1]))
	case "in":
		return w.make1("in "+w.variable(n.Text), w.values(n.Kids)...)
	case "call":
		return w.call(n)
	case "builtin":
		return w.builtin(n)
	}
	panic("no expression: " + n.Op)
}

func (w *walker) call(n ast.Node) string {
	at := slices.IndexFunc(w.names.Funcs, func(f resolve.Func) bool { return f.Name == n.Text })
	f := &w.names.Funcs[at]
	var l []string
	for i, kid := range n.Kids {
		if f.Arrays[i] {
			l = append(l, "array "+w.variable(kid.Text))
			continue
		}
		l = append(l, w.value(kid))
	}
	w.do(fmt.Sprint("call ", at), l...)
	around := w.function
	w.function, w.result = f, quoted("")
	if w.statement(f.Body) != "return" {
		w.result = quoted("")
	}
	w.function = around
	w.do("return", w.result)
	return w.result
}

func (w *walker) builtin(n ast.Node) string {
	k := n.Kids
	switch n.Text {
	case "length":
		if len(k) == 0 {
			return w.make1("length 1", w.record())
		}
	case "match":
		return w.make1("match 2", w.value(k[0]), w.pattern(k[1]))
	case "split":
		l := []string{w.value(k[0]), "array " + w.variable(k[1].Text)}
		if len(k) == 2 {
			return w.make1("split 2", l...)
		}
		form := "split 3"
		if k[2].Op == "re" {
			form = "split 4"
		}
		return w.make1(form, append(l, w.pattern(k[2]))...)
	case "sub", "gsub":
		at := w.values(k[2].Kids)
		has := w.read(k[2], at)
		pattern := w.pattern(k[0])
		form := map[string]string{"sub": "sub 0", "gsub": "sub 1"}[n.Text]
		w.lay(k[2], 0, append(at, w.make1(form, has, pattern, w.value(k[1])))...)
		return w.make1("hits")
	}
	return w.make1(fmt.Sprint(n.Text, " ", len(k)), w.values(k)...)
}

// statement does one, and answers the word that ends more than itself.
func (w *walker) statement(n ast.Node) string {
	k := n.Kids
	switch n.Op {
	case "block":
		for _, kid := range k {
			if word := w.statement(kid); word != "" {
				return word
			}
		}
	case "if":
		if w.ask(w.value(k[0])) {
			return w.statement(k[1])
		} else if len(k) == 3 {
			return w.statement(k[2])
		}
	case "while":
		return w.loop(ast.Node{}, k[0], ast.Node{}, k[1])
	case "for":
		return w.loop(k[0], k[1], k[2], k[3])
	case "forin":
		w.do("iter " + w.variable(k[0].Text))
		for w.ask("key") {
			w.make1("set "+w.variable(n.Text)+" 0", w.make1("key"))
			if word := w.statement(k[1]); word == "break" {
				break
			} else if word == "return" {
				return word
			}
		}
		w.do("drop")
	case "break", "continue":
		return n.Op
	case "next":
		w.do("next")
		panic(skip{})
	case "exit":
		w.do("exit", w.values(k)...)
		panic(over{})
	case "return":
		result := quoted("")
		for _, kid := range k {
			result = w.value(kid)
		}
		w.result = result
		return n.Op
	case "delete":
		if k[0].Op == "index" {
			w.do("delete "+w.variable(k[0].Text), w.values(k[0].Kids)...)
		} else {
			w.do("clear " + w.variable(k[0].Text))
		}
	case "default":
		w.do("print 0", w.record())
	case "print", "printf":
		l := w.values(k[1:])
		if len(k) == 1 {
			l = []string{w.record()}
		}
		to := map[string]int{"to": 1, "append": 2}[k[0].Op]
		w.do(fmt.Sprint(n.Op, " ", to), append(l, w.values(k[0].Kids)...)...)
	case "expr":
		w.value(k[0])
	}
	return ""
}

// loop: a break ends it, wherever it stands; a continue in the first part or in the body goes on with the last part, and one there goes on with what is asked.
func (w *walker) loop(first, asked, step, body ast.Node) string {
	word := w.statement(first)
	for again := word == "continue"; word != "break" && word != "return"; again = false {
		w.tick()
		if !again {
			if asked.Op != "" && asked.Op != "none" && !w.ask(w.value(asked)) {
				break
			}
			word = w.statement(body)
		}
		if word == "break" || word == "return" {
			break
		}
		word = w.statement(step)
		if word == "return" {
			break
		}
	}
	if word == "return" {
		return word
	}
	return ""
}

// traces: what a program does as steps, and as a tree.
func traces(t *testing.T, s string, left int, draw func() func() bool) (steps, words trace) {
	t.Helper()
	p := compiled(t, s)
	m := machine{p: p, trace: trace{left: left, draw: draw()}}
	part := func(at int) func() { return func() { m.through(at) } }
	m.run(part(p.Begin), part(p.Record), part(p.End))
	tree, _, _ := parse.Parse(s)
	names, _, _ := resolve.Resolve(tree)
	w := newWalker(tree, names)
	w.left, w.draw = left, draw()
	w.run(w.items("begin"), w.items("rule"), w.items("end"))
	return m.trace, w.trace
}

// P15.1: what Compile makes does, deed by deed, what chapter 17 says of the program.
func TestMeaning(t *testing.T) {
	r := rand.New(rand.NewSource(19))
	whole := 0
	for range 6000 {
		s := newWriter(r).program()
		seed := r.Int63()
		steps, words := traces(t, s, 400, func() func() bool {
			bits := rand.New(rand.NewSource(seed))
			return func() bool { return bits.Intn(5) < 2 }
		})
		n := min(len(steps.log), len(words.log))
		if !slices.Equal(steps.log[:n], words.log[:n]) || !steps.cut && !words.cut && len(steps.log) != len(words.log) {
			for i := range n {
				if steps.log[i] != words.log[i] {
					t.Fatalf("Compile(%q): deed %d is %s, not %s", s, i, steps.log[i], words.log[i])
				}
			}
			t.Fatalf("Compile(%q): %d deeds, %d by the words", s, len(steps.log), len(words.log))
		}
		if !steps.cut && !words.cut {
			whole++
		}
	}
	if whole < 2000 {
		t.Errorf("%d came to an end", whole)
	}
}
