package resolve

import (
	"iter"
	"slices"

	"scribe/ast"
)

// name is one of a function's params, or a global one, of no function.
type name struct {
	function, text string
}

// handed is a name that stands as an argument, and the param's name that it is handed to.
type handed struct {
	name, param name
}

// table is what a whole program says of its names.
type table struct {
	params map[string][]string // of each function; of several ones of a name the first one's
	arrays map[name]int        // the names of arrays
}

func newTable(program ast.Node) table {
	t := table{map[string][]string{}, map[name]int{}}
	for _, item := range program.Kids {
		if item.Op == "func" && !t.isFunction(item.Text) {
			t.params[item.Text] = paramsOf(item)
		}
	}
	l := t.lookForArrays(program)
	for t.spread(l) {
	}
	return t
}

// paramsOf: the names of a func's params.
func paramsOf(item ast.Node) []string {
	var l []string
	for _, kid := range item.Kids {
		if kid.Op == "param" {
			l = append(l, kid.Text)
		}
	}
	return l
}

// lookForArrays keeps the names that are arrays' by what they stand in, and answers which ones are handed to functions.
func (t *table) lookForArrays(program ast.Node) []handed {
	var l []handed
	for function, n := range nodes(program) {
		switch n.Op {
		case "index", "in", "name":
			t.arrays[t.find(function, n.Text)] = 1
		case "call":
			params := t.params[n.Text]
			for i, kid := range n.Kids[:min(len(n.Kids), len(params))] {
				if kid.Op == "var" {
					l = append(l, handed{t.find(function, kid.Text), name{n.Text, params[i]}})
				}
			}
		}
	}
	return l
}

// spread: where one of both is an array's, the other one is, too. Is any of them new?
func (t *table) spread(l []handed) bool {
	before := len(t.arrays)
	for _, h := range l {
		if t.isArray(h.name) {
			t.arrays[h.param] = 1
		}
		if t.isArray(h.param) {
			t.arrays[h.name] = 1
		}
	}
	return len(t.arrays) > before
}

// find: which name a text is within a function (outside of all, if that is empty).
func (t *table) find(function, text string) name {
	if slices.Contains(t.params[function], text) {
		return name{function, text}
	}
	return name{text: text}
}

func (t *table) isArray(n name) bool {
	return t.arrays[n] > 0
}

func (t *table) isFunction(text string) bool {
	_, ok := t.params[text]
	return ok
}

// nodes: all that stands in a program's items, each ahead of its kids, with the name of the function that it is in.
func nodes(program ast.Node) iter.Seq2[string, *ast.Node] {
	return func(yield func(string, *ast.Node) bool) {
		for i := range program.Kids {
			item := &program.Kids[i]
			if !visit(item, func(n *ast.Node) bool { return yield(functionOf(item), n) }) {
				return
			}
		}
	}
}

// visit tells a node and all below it; false: no more is asked for.
func visit(n *ast.Node, yield func(*ast.Node) bool) bool {
	if !yield(n) {
		return false
	}
	for i := range n.Kids {
		if !visit(&n.Kids[i], yield) {
			return false
		}
	}
	return true
}

// functionOf: the name of the function that an item is, else nothing.
func functionOf(item *ast.Node) string {
	if item.Op == "func" {
		return item.Text
	}
	return ""
}

// isSpecial: is a name the language's own?
func isSpecial(text string) bool {
	switch text {
	case "NR", "NF", "FS", "OFS", "ORS", "FILENAME", "RSTART", "RLENGTH":
		return true
	}
	return false
}
