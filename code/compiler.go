package code

import (
	"slices"

	"scribe/ast"
	"scribe/num"
	"scribe/resolve"
)

// compiler makes the steps of a tree whose names are known.
type compiler struct {
	made   *Program
	names  *resolve.Info
	params []string // of the function that is compiled; none outside of all
	loops  []loop   // those that what is compiled stands in
}

// loop is the jumps out of a loop, and those on with its next pass, which don't know yet where to.
type loop struct {
	over, again []int
}

func newCompiler(names *resolve.Info) *compiler {
	made := &Program{}
	for _, name := range special {
		made.Globals = append(made.Globals, name)
		made.Arrays = append(made.Arrays, false)
	}
	for i, name := range names.Globals {
		if !slices.Contains(made.Globals, name) {
			made.Globals = append(made.Globals, name)
			made.Arrays = append(made.Arrays, names.Arrays[i])
		}
	}
	return &compiler{made: made, names: names}
}

// program makes all parts, and all functions.
func (c *compiler) program(tree ast.Node) {
	c.made.Begin = c.part(tree, "begin")
	c.made.Record = c.part(tree, "rule")
	c.made.End = c.part(tree, "end")
	for _, f := range c.names.Funcs {
		c.made.Funcs = append(c.made.Funcs, Func{Entry: c.here(), Arrays: f.Arrays})
		c.params = f.Params
		c.statement(f.Body)
		c.text("")
		c.add(Return, 0, 0)
	}
}

// part makes one of all items of a kind, and answers where it begins.
func (c *compiler) part(tree ast.Node, op string) int {
	first := c.here()
	for _, item := range tree.Kids {
		switch {
		case item.Op != op:
		case op == "rule":
			c.rule(item.Kids[0], item.Kids[1])
		default:
			c.statement(item.Kids[0])
		}
	}
	c.add(Stop, 0, 0)
	return first
}

func (c *compiler) rule(asked, done ast.Node) {
	past := c.unless(asked)
	c.statement(done)
	c.land(past)
}

// here: the place of the step that comes next.
func (c *compiler) here() int {
	return len(c.made.Code)
}

// add lays a step behind the others, and answers its place.
func (c *compiler) add(op, a, b int) int {
	c.made.Code = append(c.made.Code, Ins{Op: op, A: a, B: b})
	return c.here() - 1
}

// jump lays a step that leads to a place that isn't known yet.
func (c *compiler) jump(op int) int {
	return c.add(op, -1, 0)
}

// land leads jumps to what comes next.
func (c *compiler) land(jumps []int) {
	for _, at := range jumps {
		c.made.Code[at].A = c.here()
	}
}

// number pushes one.
func (c *compiler) number(n num.Num) {
	at := slices.Index(c.made.Nums, n)
	if at < 0 {
		at = len(c.made.Nums)
		c.made.Nums = append(c.made.Nums, n)
	}
	c.add(Num, at, 0)
}

// text pushes one.
func (c *compiler) text(s string) {
	at := slices.Index(c.made.Strs, s)
	if at < 0 {
		at = len(c.made.Strs)
		c.made.Strs = append(c.made.Strs, s)
	}
	c.add(Str, at, 0)
}

// record pushes the value of $0.
func (c *compiler) record() {
	c.number(0)
	c.add(Field, 0, 0)
}

// variable: which one a name is of which ones.
func (c *compiler) variable(name string) (a, b int) {
	if a = slices.Index(c.params, name); a >= 0 {
		return a, 1
	}
	return slices.Index(c.made.Globals, name), 0
}

// functionOf: the number of the program's function that has a name.
func (c *compiler) functionOf(name string) int {
	return slices.IndexFunc(c.names.Funcs, func(f resolve.Func) bool {
		return f.Name == name
	})
}
