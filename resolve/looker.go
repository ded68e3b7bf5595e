package resolve

import (
	"strings"

	"scribe/api"
	"scribe/ast"
)

// looker goes through a program node by node, up to its end or to the first error.
type looker struct {
	table
	info     Info
	done     map[string]int // the functions that were begun
	met      map[string]int // the global names of info
	function string         // the one that is gone through
	rule     bool           // is a rule gone through?
	loops    int            // loops that are gone through, within one another
	bad      int
	err      api.Errno
}

// fail keeps the error.
func (l *looker) fail(n *ast.Node, e api.Errno) bool {
	l.bad, l.err = n.At, e
	return false
}

// need: an error of a kind at a node, if what is said doesn't hold.
func (l *looker) need(holds bool, n *ast.Node, e api.Errno) bool {
	return holds || l.fail(n, e)
}

// item looks at a part of a program.
func (l *looker) item(item *ast.Node) bool {
	l.function, l.rule = functionOf(item), item.Op == "rule"
	if item.Op != "func" {
		return l.kids(item)
	}
	if l.done[item.Text] > 0 {
		return l.fail(item, api.ErrKind)
	}
	l.done[item.Text] = 1
	return l.funcItem(item)
}

// funcItem looks at a function's params and block, and adds it.
func (l *looker) funcItem(item *ast.Node) bool {
	f := Func{Name: strings.Clone(item.Text)}
	earlier := map[string]int{}
	for i := range item.Kids {
		kid := &item.Kids[i]
		if kid.Op != "param" {
			if !l.look(kid) {
				return false
			}
			// The first node of all is the block itself, with memory of its own.
			f.Body, _ = ast.First(*kid, kid.Op)
			continue
		}
		if l.isFunction(kid.Text) || earlier[kid.Text] > 0 || isSpecial(kid.Text) {
			return l.fail(kid, api.ErrKind)
		}
		earlier[kid.Text] = 1
		f.Params = append(f.Params, strings.Clone(kid.Text))
		f.Arrays = append(f.Arrays, l.isArray(name{item.Text, kid.Text}))
	}
	l.info.Funcs = append(l.info.Funcs, f)
	return true
}

// kids looks at all of a node's.
func (l *looker) kids(n *ast.Node) bool {
	for i := range n.Kids {
		if !l.look(&n.Kids[i]) {
			return false
		}
	}
	return true
}

// look looks at a node and at all below it.
func (l *looker) look(n *ast.Node) bool {
	switch n.Op {
	case "call":
		return l.call(n)
	case "while", "for", "forin":
		l.loops++
		defer l.endLoop()
	}
	return l.lookAlone(n) && l.kids(n)
}

func (l *looker) endLoop() {
	l.loops--
}

// lookAlone looks at a node, but not at its kids.
func (l *looker) lookAlone(n *ast.Node) bool {
	switch n.Op {
	case "var", "forin":
		return l.lookName(n, false)
	case "index", "in", "name":
		return l.lookName(n, true)
	case "break", "continue":
		return l.need(l.loops > 0, n, api.ErrSyntax)
	case "return":
		return l.need(l.function != "", n, api.ErrSyntax)
	case "next":
		return l.need(l.rule, n, api.ErrSyntax)
	}
	return true
}

// lookName looks at a node's name, which has to be an array's, or a single value's.
func (l *looker) lookName(n *ast.Node, array bool) bool {
	found := l.find(l.function, n.Text)
	global := found.function == ""
	if l.isFunction(n.Text) || l.isArray(found) != array || array && global && isSpecial(n.Text) {
		return l.fail(n, api.ErrKind)
	}
	if global && l.met[n.Text] == 0 {
		l.met[n.Text] = 1
		l.info.Globals = append(l.info.Globals, strings.Clone(n.Text))
		l.info.Arrays = append(l.info.Arrays, array)
	}
	return true
}

// call looks at a call and at its arguments.
func (l *looker) call(n *ast.Node) bool {
	params := l.params[n.Text]
	if !l.isFunction(n.Text) || len(n.Kids) > len(params) {
		return l.fail(n, api.ErrKind)
	}
	for i := range n.Kids {
		kid := &n.Kids[i]
		if !l.isArray(name{n.Text, params[i]}) {
			if !l.look(kid) {
				return false
			}
			continue
		}
		if !l.need(kid.Op == "var", n, api.ErrKind) || !l.lookName(kid, true) {
			return false
		}
	}
	return true
}
