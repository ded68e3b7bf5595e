package vm_test

import (
	"math/big"
	"slices"
	"strconv"
	"strings"

	"scribe/api"
	"scribe/ast"
	"scribe/cell"
	"scribe/format"
	"scribe/input"
	"scribe/match"
	"scribe/num"
	"scribe/parse"
	"scribe/resolve"
	"scribe/vm"
)

// told is what a run comes to.
type told struct {
	files  map[string]string
	over   bool
	status int
	err    api.Errno
}

// table is an array of the model: keys in order, and their values.
type table struct {
	keys  []string
	cells map[string]cell.Cell
}

func newTable() *table {
	return &table{cells: map[string]cell.Cell{}}
}

func (x *table) remove(key string) {
	x.keys = slices.DeleteFunc(x.keys, func(k string) bool { return k == key })
	delete(x.cells, key)
}

// called is a call of a function: its variables.
type called struct {
	f      *resolve.Func
	values map[string]cell.Cell
	tables map[string]*table
	result cell.Cell
}

// walker goes through a program's tree, by the words of chapter 17.
type walker struct {
	told
	tree   ast.Node
	names  *resolve.Info
	accept func(name string) bool
	values map[string]cell.Cell
	tables map[string]*table
	live   []*table // all tables that there are
	calls  []*called
	text   string
	fields []cell.Cell
	seed   *big.Int
	given  num.Num
	opened map[string]bool
	count  int // nodes, blocks and records that were gone through
	most   int // so many of these, and it is cut off
}

// How a run ends, or what is done for a record.
type (
	fault api.Errno
	quit  int
	skip  struct{}
	cut   struct{}
)

func newWalker(s string, accept func(string) bool, most int) *walker {
	tree, _, _ := parse.Parse(s)
	names, _, _ := resolve.Resolve(tree)
	w := &walker{tree: tree, names: names, accept: accept, most: most, seed: big.NewInt(0), opened: map[string]bool{}}
	w.files = map[string]string{}
	w.values = map[string]cell.Cell{"NR": cell.Int(0), "FS": cell.Text(" "), "OFS": cell.Text(" "), "ORS": cell.Text("\n")}
	w.tables = map[string]*table{}
	for i, name := range names.Globals {
		if names.Arrays[i] {
			w.tables[name] = newTable()
			w.live = append(w.live, w.tables[name])
		}
	}
	return w
}

// walked: what a text's run over inputs comes to, and how much it goes through.
func walked(s string, in []vm.File, accept func(string) bool, most int) (told, int) {
	w := newWalker(s, accept, most)
	w.run(in)
	return w.told, w.count
}

func (w *walker) run(in []vm.File) {
	defer func() {
		w.over = true
		switch x := recover().(type) {
		case nil:
		case fault:
			w.err = api.Errno(x)
		case quit:
			w.status = int(x)
		case cut:
			w.over = false
		default:
			panic(x)
		}
	}()
	w.items("begin")
	for _, f := range in {
		lines := strings.Split(f.Text, "\n")
		if lines[len(lines)-1] == "" {
			lines = lines[:len(lines)-1]
		}
		for _, line := range lines {
			w.goThrough()
			w.values["FILENAME"] = cell.Text(f.Name)
			w.values["NR"] = cell.Of(num.Add(w.values["NR"].Num(), num.Int(1)))
			w.load(line)
			w.recordRules()
		}
	}
	w.items("end")
}

func (w *walker) recordRules() {
	defer func() {
		if x := recover(); x != nil {
			if _, ok := x.(skip); !ok {
				panic(x)
			}
			w.calls = nil
		}
	}()
	w.items("rule")
}

func (w *walker) goThrough() {
	if w.count++; w.count > w.most {
		panic(cut{})
	}
}

func (w *walker) items(op string) {
	for _, item := range w.tree.Kids {
		switch {
		case item.Op != op:
		case op != "rule":
			w.goThrough()
			w.statement(item.Kids[0])
		case item.Kids[0].Op == "always" || w.value(item.Kids[0]).True():
			w.statement(item.Kids[1])
		}
	}
}

// sized: a text, if it isn't too long.
func sized(s string) string {
	if len(s) > 4000 {
		panic(fault(api.ErrSize))
	}
	return s
}

func (w *walker) load(s string) {
	l, e := input.Split(sized(s), w.values["FS"].Str(), false)
	if e != api.OK {
		panic(fault(e))
	}
	w.text, w.fields = s, nil
	for _, x := range l {
		w.fields = append(w.fields, cell.Input(x))
	}
}

// join makes the record of its fields.
func (w *walker) join() {
	var l []string
	for _, c := range w.fields {
		l = append(l, c.Str())
	}
	w.text = sized(strings.Join(l, w.values["OFS"].Str()))
}

func (w *walker) resize(n int) {
	if n < 0 {
		panic(fault(api.ErrRun))
	}
	if n > 500 {
		panic(fault(api.ErrSize))
	}
	w.fields = slices.Clone(w.fields)
	for len(w.fields) < n {
		w.fields = append(w.fields, cell.Cell{})
	}
	w.fields = w.fields[:n]
}

// place is what a value lies in: a variable, a field or a key.
type place struct {
	op, name, key string
	n             int
}

// inner: the call that is gone through, if a name is one of its own.
func (w *walker) inner(name string) *called {
	if len(w.calls) > 0 {
		if c := w.calls[len(w.calls)-1]; slices.Contains(c.f.Params, name) {
			return c
		}
	}
	return nil
}

func (w *walker) table(name string) *table {
	if c := w.inner(name); c != nil {
		return c.tables[name]
	}
	return w.tables[name]
}

func (w *walker) place(n ast.Node) place {
	switch n.Op {
	case "field":
		return place{op: n.Op, n: w.value(n.Kids[0]).Num().Whole()}
	case "index":
		return place{op: n.Op, name: n.Text, key: w.value(n.Kids[0]).Str()}
	}
	return place{op: n.Op, name: n.Text}
}

// come: a key is there from now on.
func (w *walker) come(x *table, key string) {
	if _, ok := x.cells[key]; ok {
		return
	}
	all := 0
	for _, l := range w.live {
		all += len(l.keys)
	}
	if all >= 4000 {
		panic(fault(api.ErrSize))
	}
	x.keys = append(x.keys, key)
	x.cells[key] = cell.Cell{}
}

func (w *walker) get(p place) cell.Cell {
	switch p.op {
	case "field":
		switch {
		case p.n < 0:
			panic(fault(api.ErrRun))
		case p.n > 500:
			panic(fault(api.ErrSize))
		case p.n == 0:
			return cell.Input(w.text)
		case p.n > len(w.fields):
			return cell.Cell{}
		}
		return w.fields[p.n-1]
	case "index":
		x := w.table(p.name)
		w.come(x, p.key)
		return x.cells[p.key]
	}
	if c := w.inner(p.name); c != nil {
		return c.values[p.name]
	}
	if p.name == "NF" {
		return cell.Int(len(w.fields))
	}
	return w.values[p.name]
}

func (w *walker) lay(p place, c cell.Cell) {
	switch p.op {
	case "field":
		if p.n == 0 {
			w.load(c.Str())
			return
		}
		w.resize(max(p.n, min(len(w.fields), 500*p.n))) // below 0: refused
		w.fields[p.n-1] = c
		w.join()
		return
	case "index":
		x := w.table(p.name)
		w.come(x, p.key)
		x.cells[p.key] = c
		return
	}
	if in := w.inner(p.name); in != nil {
		in.values[p.name] = c
	} else if p.name == "NF" {
		w.resize(c.Num().Whole())
		w.join()
	} else {
		w.values[p.name] = c
	}
}

// pattern: the one that a re or a value's text is.
func (w *walker) pattern(n ast.Node) string {
	if n.Op == "re" {
		return n.Text
	}
	return w.value(n).Str()
}

func compiled(s string) *match.Prog {
	p, _, e := match.Of(s)
	if e != api.OK {
		panic(fault(api.ErrRun))
	}
	return p
}

// reckoned: two numbers by the sign between.
func reckoned(sign string, a, b num.Num) num.Num {
	n, e := num.Num(0), api.OK
	switch sign {
	case "+", "add":
		n = num.Add(a, b)
	case "-", "sub":
		n = num.Sub(a, b)
	case "*", "mul":
		n = num.Mul(a, b)
	case "/", "div":
		n, e = num.Div(a, b)
	case "%", "mod":
		n, e = num.Mod(a, b)
	}
	if e != api.OK {
		panic(fault(e))
	}
	return n
}

func (w *walker) value(n ast.Node) cell.Cell {
	w.goThrough()
	k := n.Kids
	switch n.Op {
	case "num":
		x, _ := num.Prefix(n.Text)
		return cell.Of(x)
	case "str":
		return cell.Text(n.Text)
	case "re":
		return cell.Bool(compiled(n.Text).In(w.text))
	case "var", "index", "field":
		return w.get(w.place(n))
	case "assign":
		p := w.place(k[0])
		c := w.value(k[1])
		if n.Text != "=" {
			c = cell.Of(reckoned(n.Text[:1], w.get(p).Num(), c.Num()))
		}
		w.lay(p, c)
		return c
	case "preinc", "predec", "postinc", "postdec":
		p := w.place(k[0])
		was := w.get(p).Num()
		now := reckoned(map[string]string{"inc": "+", "dec": "-"}[n.Op[len(n.Op)-3:]], was, num.Int(1))
		w.lay(p, cell.Of(now))
		if strings.HasPrefix(n.Op, "pre") {
			return cell.Of(now)
		}
		return cell.Of(was)
	case "cond":
		if w.value(k[0]).True() {
			return w.value(k[1])
		}
		return w.value(k[2])
	case "and":
		return cell.Bool(w.value(k[0]).True() && w.value(k[1]).True())
	case "or":
		return cell.Bool(w.value(k[0]).True() || w.value(k[1]).True())
	case "match", "nomatch":
		s := w.value(k[0]).Str()
		return cell.Bool(compiled(w.pattern(k[1])).In(s) == (n.Op == "match"))
	case "in":
		_, ok := w.table(n.Text).cells[w.value(k[0]).Str()]
		return cell.Bool(ok)
	case "not":
		return cell.Bool(!w.value(k[0]).True())
	case "neg":
		return cell.Of(-w.value(k[0]).Num())
	case "plus":
		return cell.Of(w.value(k[0]).Num())
	case "call":
		return w.call(n)
	case "builtin":
		return w.builtin(n.Text, k)
	}
	a, b := w.value(k[0]), w.value(k[1])
	compared := cell.Compare(a, b)
	switch n.Op {
	case "cat":
		return cell.Text(sized(a.Str() + b.Str()))
	case "less":
		return cell.Bool(compared < 0)
	case "lesseq":
		return cell.Bool(compared <= 0)
	case "equal":
		return cell.Bool(compared == 0)
	case "notequal":
		return cell.Bool(compared != 0)
	case "greater":
		return cell.Bool(compared > 0)
	case "greatereq":
		return cell.Bool(compared >= 0)
	}
	return cell.Of(reckoned(n.Op, a.Num(), b.Num()))
}

func (w *walker) call(n ast.Node) cell.Cell {
	i := slices.IndexFunc(w.names.Funcs, func(f resolve.Func) bool { return f.Name == n.Text })
	c := &called{f: &w.names.Funcs[i], values: map[string]cell.Cell{}, tables: map[string]*table{}, result: cell.Text("")}
	var own []*table
	for i, name := range c.f.Params {
		switch {
		case c.f.Arrays[i] && i < len(n.Kids):
			c.tables[name] = w.table(n.Kids[i].Text)
		case c.f.Arrays[i]:
			c.tables[name] = newTable()
			own = append(own, c.tables[name])
		case i < len(n.Kids):
			c.values[name] = w.value(n.Kids[i])
		}
	}
	if len(w.calls) == 100 {
		panic(fault(api.ErrDeep))
	}
	w.calls, w.live = append(w.calls, c), append(w.live, own...)
	w.statement(c.f.Body)
	w.calls, w.live = w.calls[:len(w.calls)-1], w.live[:len(w.live)-len(own)]
	return c.result
}

func (w *walker) builtin(name string, k []ast.Node) cell.Cell {
	switch name {
	case "sub", "gsub":
		return w.replace(name == "gsub", k)
	case "length":
		if len(k) == 0 {
			return cell.Int(len(w.text))
		}
	case "split":
		return w.split(k)
	case "match":
		return w.find(w.value(k[0]).Str(), k[1])
	case "rand":
		w.seed.Mul(w.seed, big.NewInt(6364136223846793005))
		w.seed.Add(w.seed, big.NewInt(1442695040888963407))
		w.seed.Mod(w.seed, new(big.Int).Lsh(big.NewInt(1), 64))
		x := new(big.Int).Rsh(w.seed, 33)
		return cell.Of(num.Num(x.Mod(x, big.NewInt(1000000)).Int64()))
	}
	var l []cell.Cell
	for _, kid := range k {
		l = append(l, w.value(kid))
	}
	s := l[0].Str()
	switch name {
	case "length":
		return cell.Int(len(s))
	case "substr":
		out, m := "", l[1].Num().Whole()
		for i := range len(s) {
			if i+1 >= m && (len(l) == 2 || i+1 < m+l[2].Num().Whole()) {
				out += s[i : i+1]
			}
		}
		return cell.Text(out)
	case "index":
		t := l[1].Str()
		for i := range len(s) + 1 {
			if strings.HasPrefix(s[i:], t) {
				return cell.Int(i + 1)
			}
		}
		return cell.Int(0)
	case "tolower", "toupper":
		const small, great = "abcdefghijklmnopqrstuvwxyz", "ABCDEFGHIJKLMNOPQRSTUVWXYZ"
		from, to := great, small
		if name == "toupper" {
			from, to = small, great
		}
		b := []byte(s)
		for i, c := range b {
			if at := strings.IndexByte(from, c); at >= 0 {
				b[i] = to[at]
			}
		}
		return cell.Text(sized(string(b)))
	case "int":
		return cell.Int(l[0].Num().Whole())
	case "sprintf":
		return cell.Text(formatted(l))
	}
	// srand
	was := w.given
	w.given = l[0].Num()
	w.seed = new(big.Int).Mod(big.NewInt(int64(w.given)), new(big.Int).Lsh(big.NewInt(1), 64))
	return cell.Of(was)
}

func formatted(l []cell.Cell) string {
	s, e := format.Print(l[0].Str(), l[1:])
	if e != api.OK {
		panic(fault(api.ErrRun))
	}
	return s
}

func (w *walker) split(k []ast.Node) cell.Cell {
	s, sep, re := w.value(k[0]).Str(), w.values["FS"].Str(), false
	if len(k) == 3 {
		sep, re = w.pattern(k[2]), k[2].Op == "re"
	}
	l, e := input.Split(s, sep, re)
	if e != api.OK {
		panic(fault(e))
	}
	x := w.table(k[1].Text)
	x.keys, x.cells = nil, map[string]cell.Cell{}
	for i, field := range l {
		key := strconv.Itoa(i + 1)
		w.come(x, key)
		x.cells[key] = cell.Input(field)
	}
	return cell.Int(len(l))
}

func (w *walker) find(s string, pattern ast.Node) cell.Cell {
	from, to, ok := compiled(w.pattern(pattern)).Find(s, 0)
	at, length := 0, -1
	if ok {
		at, length = from+1, to-from
	}
	w.values["RSTART"], w.values["RLENGTH"] = cell.Int(at), cell.Int(length)
	return cell.Int(at)
}

func (w *walker) replace(all bool, k []ast.Node) cell.Cell {
	p := w.place(k[2])
	has := w.get(p)
	pattern, with := compiled(w.pattern(k[0])), w.value(k[1]).Str()
	s, out, behind, hits := has.Str(), "", 0, 0
	for from, to := range pattern.All(s) {
		if hits > 0 && !all {
			break
		}
		// A byte of its own in the place of each escape, while & is replaced.
		one := strings.NewReplacer(`\\`, `\`, `\&`, "&", "&", s[from:to]).Replace(with)
		out = sized(out + s[behind:from] + one)
		behind = to
		hits++
	}
	if hits > 0 {
		has = cell.Text(sized(out + s[behind:]))
	}
	w.lay(p, has)
	return cell.Int(hits)
}

// statement does one, and answers the word that ends more than itself.
func (w *walker) statement(n ast.Node) string {
	w.goThrough()
	k := n.Kids
	switch n.Op {
	case "block":
		for _, kid := range k {
			if word := w.statement(kid); word != "" {
				return word
			}
		}
	case "if":
		if w.value(k[0]).True() {
			return w.statement(k[1])
		} else if len(k) == 3 {
			return w.statement(k[2])
		}
	case "while":
		return w.loop(ast.Node{Op: "none"}, k[0], ast.Node{Op: "none"}, k[1])
	case "for":
		return w.loop(k[0], k[1], k[2], k[3])
	case "forin":
		for _, key := range slices.Clone(w.table(k[0].Text).keys) {
			w.lay(place{op: "var", name: n.Text}, cell.Text(key))
			if word := w.statement(k[1]); word == "break" {
				break
			} else if word == "return" {
				return word
			}
		}
	case "break", "continue":
		return n.Op
	case "next":
		panic(skip{})
	case "exit":
		status := 0
		for _, kid := range k {
			status = (w.value(kid).Num().Whole()%256 + 256) % 256
		}
		panic(quit(status))
	case "return":
		for _, kid := range k {
			c := w.value(kid)
			w.calls[len(w.calls)-1].result = c
		}
		return n.Op
	case "delete":
		x := w.table(k[0].Text)
		if k[0].Op == "index" {
			x.remove(w.value(k[0].Kids[0]).Str())
		} else {
			x.keys, x.cells = nil, map[string]cell.Cell{}
		}
	case "default":
		w.print(sized(w.text+w.values["ORS"].Str()), ast.Node{Op: "none"})
	case "print", "printf":
		w.printed(n.Op, k[0], k[1:])
	case "expr":
		w.value(k[0])
	}
	return ""
}

func (w *walker) loop(first, asked, step, body ast.Node) string {
	w.statement(first)
	for asked.Op == "none" || w.value(asked).True() {
		switch w.statement(body) {
		case "break":
			return ""
		case "return":
			return "return"
		}
		w.statement(step)
	}
	return ""
}

func (w *walker) printed(op string, to ast.Node, k []ast.Node) {
	var l []cell.Cell
	var texts []string
	for _, kid := range k {
		c := w.value(kid)
		l, texts = append(l, c), append(texts, c.Str())
	}
	if len(k) == 0 {
		texts = []string{w.text}
	}
	name := ast.Node{Op: "none"}
	if to.Op != "none" {
		name = ast.Node{Op: to.Op, Text: w.value(to.Kids[0]).Str()}
	}
	if op == "printf" {
		w.print(formatted(l), name)
		return
	}
	w.print(sized(strings.Join(texts, w.values["OFS"].Str())+w.values["ORS"].Str()), name)
}

// print lets a text go to the file of a name.
func (w *walker) print(s string, to ast.Node) {
	name := "stdout"
	if to.Op != "none" {
		name = to.Text
	}
	if !w.accept(name) {
		panic(fault(api.ErrRun))
	}
	if !w.opened[name] && to.Op != "append" {
		w.files[name] = ""
	}
	w.opened[name] = true
	w.files[name] += s
}
