package parse_test

import (
	"regexp"
	"slices"
	"strings"

	"scribe/api"
	"scribe/lex"
	"scribe/regex"
)

// programs are the chapter's words as a grammar: a production a line, the first word is what it is of. Dead is what no token is: what stands ahead of it is wrong, but told behind it. Closed statements have what ends them, open ones have a } behind them.
const programs = `
Start Seps Items end
Items
Items Item Seps Items
Items E Sep Seps Items
Items E
Sep nl
Sep ;
Seps
Seps Sep Seps
Nls
Nls nl Nls
Item BEGIN Block
Item END Block
Item Block
Item E Block
Item function Fname ( Nls Params Nls ) Nls Block
Fname name
Fname func
Params
Params Names
Names name
Names Names , Nls name
Block { Stmts }
Stmts Seps
Stmts Seps Closed Stmts
Stmts Seps Open
Closed Block
Closed ;
Closed Simple Sep
Closed Loop Nls Closed
Closed if ( Nls E Nls ) Nls Closed
Closed If Nls Closed
Open Simple
Open Loop Nls Open
Open if ( Nls E Nls ) Nls Open
Open If Nls Open
If if ( Nls E Nls ) Nls Closed Nls else
If if ( Nls E Nls ) Nls Closed Nls ; Nls else
Loop while ( Nls E Nls )
Loop for ( Nls name in name Nls )
Loop for ( Nls First ; Nls Second ; Nls First Nls )
First
First Simple
Second
Second E
Simple break
Simple continue
Simple next
Simple exit
Simple exit E
Simple return
Simple return E
Simple delete name
Simple delete name [ Nls E Nls ]
Simple E
Simple print To
Simple print Printed To
Simple print( ( Nls Args Nls ) To
Simple printf To Dead
Simple printf Printed To
Simple printf( ( Nls Nls ) To Dead
Simple printf( ( Nls List Nls ) To
Printed E'
Printed Printed , Nls E'
To
To > Cat
To >> Cat
Cat Sum
Cat Cat SumV
Sum Product
Sum Sum + Product
Sum Sum - Product
Product Unary
Product Product * Unary
Product Product / Unary
Product Product % Unary
SumV ProductV
SumV SumV + Product
SumV SumV - Product
ProductV PostV
ProductV ProductV * Unary
ProductV ProductV / Unary
ProductV ProductV % Unary
Unary Post
Unary ! Unary
Unary - Unary
Unary + Unary
Post Pre
Post re
Post PostV
PostV Prim
PostV Place ++
PostV Place --
Pre ++ Place
Pre -- Place
Pre ++ NoPlace Dead
Pre -- NoPlace Dead
Prim NoPlace
Prim Place
Place name
Place name [ Nls E Nls ]
Place $ Prim
Place $ re
Place $ Pre
Place ( Nls Place Nls )
NoPlace num
NoPlace str
NoPlace func ( Nls Args Nls )
NoPlace length
NoPlace builtin ( Nls Args Nls )
NoPlace ( Nls E Nls )
Var name
Var ( Nls Var Nls )
Args
Args List
List E
List List , Nls E
`

// expressions are what there is twice: in what is printed no > compares (the levels have a ' then).
const expressions = `
E Or
E Or ? Nls E Nls : Nls E
E Place = Nls E
E Place += Nls E
E Place -= Nls E
E Place *= Nls E
E Place /= Nls E
E Place %= Nls E
Or And
Or Or || Nls And
And In
And And && Nls In
In Match
In In in name
Match Rel
Match Match ~ Rel
Match Match !~ Rel
Rel Cat
Rel Cat < Cat
Rel Cat <= Cat
Rel Cat == Cat
Rel Cat != Cat
Rel Cat >= Cat
`

const comparing = "Rel Cat > Cat"

// item is how far a production is read (a place within all of them, one behind the other), and behind how many tokens it began.
type item struct {
	place, from int
}

// grammar reads tokens by productions, by Earley's way: all items that may go on are kept behind each token.
type grammar struct {
	symbols  []int // of all productions: what each is of, what it is made of, and -1
	first    []int // where each production is of this symbol begins
	of       [][]int
	number   map[string]int
	nullable []bool
	seen     []int // by place and from: the last set that has this item
	sets     int
}

func newGrammar() *grammar {
	printing := regexp.MustCompile(`\b(E|Or|And|In|Match|Rel)\b`).ReplaceAllString(expressions, "$1'")
	g := &grammar{number: map[string]int{}}
	for _, line := range strings.Split(programs+expressions+printing+comparing, "\n") {
		for i, s := range strings.Fields(line) {
			if _, ok := g.number[s]; !ok {
				g.number[s] = len(g.number)
				g.of = append(g.of, nil)
			}
			n := g.number[s]
			g.symbols = append(g.symbols, n)
			if i == 0 {
				g.of[n] = append(g.of[n], len(g.symbols))
			}
		}
		g.symbols = append(g.symbols, -1)
	}
	g.nullable = make([]bool, len(g.of))
	for range g.of {
		for n, rules := range g.of {
			for _, place := range rules {
				for g.symbols[place] >= 0 && g.nullable[g.symbols[place]] {
					place++
				}
				g.nullable[n] = g.nullable[n] || g.symbols[place] < 0
			}
		}
	}
	return g
}

// symbolOf: what the production is of that a place is in.
func (g *grammar) symbolOf(place int) int {
	for place > 1 && g.symbols[place-2] >= 0 {
		place--
	}
	return g.symbols[place-1]
}

// add puts an item in a set, and those that it is if what comes next is nothing.
func (g *grammar) add(set []item, x item) []item {
	for {
		key := x.from*len(g.symbols) + x.place
		for key >= len(g.seen) {
			g.seen = append(g.seen, make([]int, len(g.symbols))...)
		}
		if g.seen[key] == g.sets {
			return set
		}
		g.seen[key] = g.sets
		set = append(set, x)
		if next := g.symbols[x.place]; next < 0 || !g.nullable[next] {
			return set
		}
		x.place++
	}
}

// read: the number of the first token that can't stand where it does (of as many as there are, if none), and whether all of them are one of what is asked for.
func (g *grammar) read(start string, tokens []string) (int, bool) {
	sets := [][]item{nil}
	g.sets++
	for _, place := range g.of[g.number[start]] {
		sets[0] = g.add(sets[0], item{place, 0})
	}
	for at := 0; ; at++ {
		whole := false
		set := sets[at]
		for i := 0; i < len(set); i++ {
			x := set[i]
			if next := g.symbols[x.place]; next >= 0 {
				for _, place := range g.of[next] {
					set = g.add(set, item{place, at})
				}
				continue
			}
			symbol := g.symbolOf(x.place)
			whole = whole || x.from == 0 && symbol == g.number[start]
			above := set
			if x.from < at {
				above = sets[x.from]
			}
			for _, y := range above {
				if g.symbols[y.place] == symbol {
					set = g.add(set, item{y.place + 1, y.from})
				}
			}
		}
		sets[at] = set
		if at == len(tokens) {
			return at, whole
		}
		g.sets++
		var next []item
		if token, ok := g.number[tokens[at]]; ok && g.of[token] == nil {
			for _, x := range set {
				if g.symbols[x.place] == token {
					next = g.add(next, item{x.place + 1, x.from})
				}
			}
		}
		if len(next) == 0 {
			return at, false
		}
		sets = append(sets, next)
	}
}

// words: the grammar's tokens.
func words(l []lex.Token) []string {
	var texts []string
	for i, t := range l {
		s := t.Text
		switch t.Kind {
		case lex.End:
			s = "end"
		case lex.Newline:
			s = "nl"
		case lex.Number:
			s = "num"
		case lex.String:
			s = "str"
		case lex.Regex:
			s = "re"
			if _, _, e := regex.Parse(t.Text); e != api.OK {
				s = "no pattern"
			}
		case lex.Name:
			s = "name"
		case lex.Func:
			s = "func"
		case lex.Builtin:
			// With a ( behind it length has a list, whatever stands behind that.
			if s != "length" || lex.Print(l[i+1:][:1]) == "sign:( " {
				s = "builtin"
			}
		case lex.Banned:
			s = "banned"
		case lex.Word:
			if strings.HasPrefix(s, "print") && printsList(l[i+1:]) {
				s += "("
			}
		}
		texts = append(texts, s)
	}
	return texts
}

// printsList: is what stands behind a print a list in brackets?
func printsList(l []lex.Token) bool {
	open := 0
	for i, t := range l {
		if t.Kind == lex.Sign && t.Text == "(" {
			open++
		}
		if t.Kind == lex.Sign && t.Text == ")" {
			open--
		}
		if open < 1 {
			behind := lex.Print(l[min(i+1, len(l)-1):][:1])
			return i > 0 && slices.Contains([]string{"NL ", "END ", "sign:; ", "sign:} ", "sign:> ", "sign:>> "}, behind)
		}
	}
	return false
}

// arguments: those of the list that begins with a ( at a place, and the place of its ).
func arguments(l []string, at int) ([][]string, int) {
	var all [][]string
	open, from := 0, at+1
	for i := at; ; i++ {
		switch l[i] {
		case "(", "[":
			open++
		case ")", "]":
			open--
		}
		if open == 1 && l[i] == "," || open == 0 {
			arg := slices.DeleteFunc(slices.Clone(l[from:i]), func(s string) bool { return s == "nl" })
			if len(arg) > 0 || len(all) > 0 {
				all = append(all, arg)
			}
			from = i + 1
		}
		if open == 0 {
			return all, i
		}
	}
}

// wrongList: is the list of this function of the language a wrong one?
func (g *grammar) wrongList(name string, args [][]string) bool {
	for _, x := range takes {
		if x.name == name && (len(args) < x.least || len(args) > x.most) {
			return true
		}
	}
	is := func(start string, i int) bool {
		_, whole := g.read(start, args[i])
		return whole
	}
	switch name {
	case "split":
		return !is("Var", 1)
	case "sub", "gsub":
		return len(args) == 3 && !is("Place", 2)
	}
	return false
}

// model: the place of the first thing that is wrong in a text without great depth, by the grammar.
func (g *grammar) model(s string) (int, api.Errno) {
	tokens, at, e := lex.Lex(s)
	if e != api.OK {
		return at, e
	}
	l := words(tokens)
	wrong, whole := g.read("Start", l)
	told, place, e := wrong, wrong, api.ErrSyntax
	for i, t := range tokens[:wrong] {
		if t.Kind != lex.Builtin || l[i+1] != "(" {
			continue
		}
		if args, end := listUpTo(l, i+1, wrong); end < told && g.wrongList(t.Text, args) {
			told, place, whole = end, i, false
			if e = api.ErrSyntax; t.Text == "srand" && len(args) == 0 {
				e = api.ErrBan
			}
		}
	}
	if whole {
		return 0, api.OK
	}
	if place == wrong && (l[wrong] == "banned" || l[wrong] == "|") {
		e = api.ErrBan
	}
	return tokens[place].At, e
}

// listUpTo: arguments, if the ) stands ahead of a place; else an end that lies behind it.
func listUpTo(l []string, at, wrong int) ([][]string, int) {
	open := 0
	for i := at; i < wrong; i++ {
		switch l[i] {
		case "(", "[":
			open++
		case ")", "]":
			open--
		}
		if open == 0 {
			return arguments(l, at)
		}
	}
	return nil, len(l)
}
