package code_test

import (
	"strings"

	"scribe/code"
	"scribe/num"
)

// said is a step as the chapter says it. A and b say what A and B are: of variables "value" and "array" A of B, or of B modulo 2 with how it is laid in B / 2; "" is what nothing is said of.
type said struct {
	op            int
	a, b          string
	takes, leaves string // V: a v, if how isn't above 5; *: as many as a call or a print says
	then          string // "": what stands behind it; jump; either; key; nothing
}

var all = []said{
	{code.Num, "number", "", "", "v", ""}, {code.Str, "text", "", "", "v", ""},
	{code.Get, "value", "of", "", "v", ""}, {code.Field, "", "", "v", "v", ""}, {code.Elem, "array", "of", "v", "v", ""},
	{code.Set, "value", "of+how", "V", "v", ""}, {code.SetField, "", "how", "vV", "v", ""}, {code.SetElem, "array", "of+how", "vV", "v", ""},
	{code.Binary, "0-11", "", "vv", "v", ""}, {code.Unary, "0-2", "", "v", "v", ""}, {code.Match, "0-1", "", "vv", "v", ""},
	{code.In, "array", "of", "v", "v", ""}, {code.Delete, "array", "of", "v", "", ""}, {code.Clear, "array", "of", "", "", ""},
	{code.Jump, "step", "", "", "", "jump"}, {code.JumpIf, "step", "", "v", "", "either"}, {code.JumpNot, "step", "", "v", "", "either"},
	{code.Pop, "", "", "v", "", ""}, {code.Bool, "", "", "v", "v", ""}, {code.Dup, "", "", "v", "vv", ""},
	{code.Call, "function", "0-*", "*", "v", ""}, {code.Ref, "array", "of", "", "a", ""}, {code.Return, "", "", "v", "", "nothing"},
	{code.Builtin, "0-10", "0-*", "*", "v", ""}, {code.Sub, "0-1", "", "vvv", "v", ""}, {code.Hits, "", "", "", "v", ""},
	{code.Print, "1-5000", "0-2", "*", "", ""}, {code.Printf, "1-5000", "0-2", "*", "", ""},
	{code.Iter, "array", "of", "", "", ""}, {code.Step, "step", "", "", "", "key"}, {code.Drop, "", "", "", "", ""},
	{code.Next, "", "", "", "", "nothing"}, {code.Exit, "0-1", "", "*", "", "nothing"}, {code.Stop, "", "", "", "", "nothing"},
}

// between: is a number one of those that a text of the form 0-11 says?
func between(n int, text string) bool {
	switch text {
	case "0-1":
		return n == 0 || n == 1
	case "0-2":
		return n >= 0 && n <= 2
	case "0-10":
		return n >= 0 && n <= 10
	case "0-11":
		return n >= 0 && n <= 11
	}
	return n >= 1 && n <= 5000
}

// given: what the functions of the language take, by number and count; "-" if they don't.
func given(a, b int) string {
	switch {
	case (a == 0 || a >= 5 && a <= 7 || a == 10) && b == 1:
		return "v"
	case a == 1 && (b == 2 || b == 3):
		return strings.Repeat("v", b)
	case (a == 2 || a == 4) && b == 2:
		return "vv"
	case a == 3 && b == 2:
		return "va"
	case a == 3 && (b == 3 || b == 4):
		return "vav"
	case a == 8 && b >= 1 && b <= 5000:
		return strings.Repeat("v", b)
	case a == 9 && b == 0:
		return ""
	}
	return "-"
}

// kinds: arrays of a list as a, others as v.
func kinds(arrays []bool) string {
	var out strings.Builder
	for _, array := range arrays {
		out.WriteByte("va"[map[bool]int{true: 1}[array]])
	}
	return out.String()
}

// variable: the kind of variable a of b in a part, or nothing.
func variable(p *code.Program, part, a, b int) string {
	l := ""
	switch {
	case b == 0:
		l = kinds(p.Arrays)
	case b == 1 && part >= 3:
		l = kinds(p.Funcs[part-3].Arrays)
	}
	if a < 0 || a >= len(l) {
		return ""
	}
	return l[a : a+1]
}

// right: does a step have an A and a B as said, but for where it leads to? And what does it take?
func (s said) right(p *code.Program, part int, x code.Ins) (string, bool) {
	how, of := x.B, x.B
	if s.b == "of+how" {
		how, of = x.B/2, x.B%2
	}
	if strings.HasSuffix(s.b, "how") && (x.B < 0 || how > 9) {
		return "", false
	}
	v := "v"
	if how > 5 {
		v = ""
	}
	takes := strings.ReplaceAll(s.takes, "V", v)
	switch s.a {
	case "number":
		return takes, x.A >= 0 && x.A < len(p.Nums)
	case "text":
		return takes, x.A >= 0 && x.A < len(p.Strs)
	case "value":
		return takes, variable(p, part, x.A, of) == "v"
	case "array":
		return takes, variable(p, part, x.A, of) == "a"
	case "function":
		if x.A < 0 || x.A >= len(p.Funcs) || x.B < 0 || x.B > len(p.Funcs[x.A].Arrays) {
			return "", false
		}
		return kinds(p.Funcs[x.A].Arrays[:x.B]), true
	case "0-10":
		takes = given(x.A, x.B)
		return takes, takes != "-"
	case "1-5000":
		if !between(x.A, s.a) || !between(x.B, s.b) {
			return "", false
		}
		return strings.Repeat("v", x.A+(x.B+1)/2), true
	case "0-1", "0-2", "0-11":
		if s.takes == "*" && between(x.A, s.a) {
			takes = strings.Repeat("v", x.A)
		}
		return takes, between(x.A, s.a)
	}
	return takes, true
}

// find: the step of that number.
func find(op int) (said, bool) {
	for _, s := range all {
		if s.op == op {
			return s, true
		}
	}
	return said{}, false
}

// leads: the places to which a step leads, and what is so there; false: it can't be met like this.
func leads(p *code.Program, at int, now code.Shape) (map[int]code.Shape, bool) {
	x := p.Code[at]
	s, ok := find(x.Op)
	if !ok {
		return nil, false
	}
	takes, ok := s.right(p, now.Part, x)
	below, found := strings.CutSuffix(now.Stack, takes)
	if !ok || !found {
		return nil, false
	}
	next := now
	next.Stack = below + s.leaves
	switch x.Op {
	case code.Return:
		ok = now.Part >= 3
	case code.Next:
		ok = now.Part == 1
	case code.Stop:
		ok = now.Part < 3 && now.Stack == "" && now.Iters == 0
	case code.Iter:
		next.Iters++
	case code.Step:
		ok = now.Iters > 0
	case code.Drop:
		ok = now.Iters > 0
		next.Iters--
	}
	key := next
	key.Stack += "v"
	switch s.then {
	case "jump":
		return map[int]code.Shape{x.A: next}, ok
	case "either":
		return map[int]code.Shape{x.A: next, at + 1: next}, ok
	case "key":
		// A step that leads right behind itself both ways does so with two stacks.
		return map[int]code.Shape{x.A: next, at + 1: key}, ok && x.A != at+1
	case "nothing":
		return nil, ok
	}
	return map[int]code.Shape{at + 1: next}, ok
}

// model is the chapter's words on Check and Shapes.
func model(p *code.Program) ([]code.Shape, bool) {
	special := strings.Fields("NR NF FS OFS ORS FILENAME RSTART RLENGTH")
	if len(p.Code) > 20000 || len(p.Globals) != len(p.Arrays) || len(p.Globals) < 8 || strings.Join(p.Globals[:8], " ") != strings.Join(special, " ") || kinds(p.Arrays[:8]) != "vvvvvvvv" {
		return nil, false
	}
	for _, n := range p.Nums {
		if n > num.Most || n < -num.Most {
			return nil, false
		}
	}
	type meeting struct {
		at int
		s  code.Shape
	}
	l := []meeting{{p.Begin, code.Shape{Met: true, Part: 0}}, {p.Record, code.Shape{Met: true, Part: 1}}, {p.End, code.Shape{Met: true, Part: 2}}}
	for i, f := range p.Funcs {
		l = append(l, meeting{f.Entry, code.Shape{Met: true, Part: 3 + i}})
	}
	shapes := make([]code.Shape, len(p.Code))
	for len(l) > 0 {
		x := l[0]
		l = l[1:]
		if x.at < 0 || x.at >= len(p.Code) || len(x.s.Stack) > 5000 || x.s.Iters > 5000 {
			return nil, false
		}
		if shapes[x.at].Met {
			if shapes[x.at] != x.s {
				return nil, false
			}
			continue
		}
		shapes[x.at] = x.s
		to, ok := leads(p, x.at, x.s)
		if !ok {
			return nil, false
		}
		for at, s := range to {
			l = append(l, meeting{at, s})
		}
	}
	return shapes, true
}
