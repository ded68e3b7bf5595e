package parse_test

import (
	"strings"
	"testing"

	"scribe/api"
	"scribe/ast"
	"scribe/parse"
)

// short: a tree as a text that is easy to read: op:text(kids).
func short(n ast.Node) string {
	var out strings.Builder
	out.WriteString(n.Op)
	if n.Text != "" || n.Op == "str" || n.Op == "re" {
		out.WriteString(":" + n.Text)
	}
	for i, kid := range n.Kids {
		out.WriteString([]string{"(", " "}[min(i, 1)] + short(kid))
	}
	if len(n.Kids) > 0 {
		out.WriteString(")")
	}
	return out.String()
}

func zero(n ast.Node) bool {
	return n.Op == "" && n.Text == "" && n.At == 0 && len(n.Kids) == 0
}

// check: texts and their trees.
func check(t *testing.T, l [][2]string) {
	t.Helper()
	for _, x := range l {
		n, at, e := parse.Parse(x[0])
		if got := short(n); e != api.OK || at != 0 || got != x[1] {
			t.Errorf("Parse(%.80q): %.200s, %d at %d, want %.200s", x[0], got, e, at, x[1])
		}
	}
}

// checkItems: programs and their items.
func checkItems(t *testing.T, l [][2]string) {
	t.Helper()
	for _, x := range l {
		check(t, [][2]string{{x[0], "program(" + x[1] + ")"}})
	}
}

// checkBlocks: what stands in a rule's block, and its statements.
func checkBlocks(t *testing.T, l [][2]string) {
	t.Helper()
	for _, x := range l {
		checkItems(t, [][2]string{{"{" + x[0] + "}", "rule(always block(" + x[1] + "))"}})
	}
}

// checkExpressions: expressions, as a statement, a rule, an argument and in brackets.
func checkExpressions(t *testing.T, l [][2]string) {
	t.Helper()
	for _, x := range l {
		checkBlocks(t, [][2]string{
			{x[0], "expr(" + x[1] + ")"}, {"(" + x[0] + ")", "expr(" + x[1] + ")"}, {"f(" + x[0] + ")", "expr(call:f(" + x[1] + "))"}, {"a[" + x[0] + "]", "expr(index:a(" + x[1] + "))"}, {"x = " + x[0], "expr(assign:=(var:x " + x[1] + "))"}, {"exit " + x[0], "exit(" + x[1] + ")"}, {"y ? " + x[0] + ":" + x[0], "expr(cond(var:y " + x[1] + " " + x[1] + "))"},
		})
		checkItems(t, [][2]string{{x[0], "rule(" + x[1] + " default)"}, {x[0] + "{}", "rule(" + x[1] + " block)"}})
	}
}

// refused: each text is refused at the place where @ stands in it.
func refused(t *testing.T, want api.Errno, l ...string) {
	t.Helper()
	for _, x := range l {
		at := strings.IndexByte(x, '@')
		s := x[:at] + x[at+1:]
		if n, bad, e := parse.Parse(s); !zero(n) || bad != at || e != want {
			t.Errorf("Parse(%.80q): %.200s, %d at %d, want %d at %d", s, short(n), e, bad, want, at)
		}
	}
}

func syntax(t *testing.T, l ...string) {
	t.Helper()
	refused(t, api.ErrSyntax, l...)
}

func banned(t *testing.T, l ...string) {
	t.Helper()
	refused(t, api.ErrBan, l...)
}

// P13.1: the chapter's examples, and those of the document.
func TestExamples(t *testing.T) {
	checkItems(t, [][2]string{
		{`$1>2{print $2,a[k]>"f"}`, "rule(greater(field(num:1) num:2) block(print(to(str:f) field(num:2) index:a(var:k))))"},
		{"BEGIN{x=a b+1}", "begin(block(expr(assign:=(var:x cat(var:a add(var:b num:1))))))"},
		{"{n+=$2} END{print n/NR}", "rule(always block(expr(assign:+=(var:n field(num:2))))) end(block(print(none div(var:n var:NR))))"},
		{`{print > "in"}`, "rule(always block(print(to(str:in))))"},
		{"BEGIN{a[1]=1;print a}", "begin(block(expr(assign:=(index:a(num:1) num:1)) print(none var:a)))"},
		{`BEGIN{x[2];x[1];for(k in x)printf "%s ",k}`, "begin(block(expr(index:x(num:2)) expr(index:x(num:1)) forin:k(name:x printf(none str:%s  var:k))))"},
	})
	syntax(t, "BEGIN{x=@}")
	banned(t, `{print @| "sh"}`)
}

// P13.1: programs without items, with what stands around them.
func TestItems(t *testing.T) {
	check(t, [][2]string{{"", "program"}, {" ", "program"}, {";", "program"}, {"\n", "program"}, {"# a", "program"}, {";;\n\n; \n;", "program"}, {"\\\n", "program"}})
	checkItems(t, [][2]string{
		{"BEGIN{}", "begin(block)"}, {"END{}", "end(block)"}, {"{}", "rule(always block)"}, {"a{}", "rule(var:a block)"}, {"a", "rule(var:a default)"}, {"/x/", "rule(re:x default)"}, {"//", "rule(re: default)"},
		{"function f(){}", "func:f(block)"}, {"function f (a,b){}", "func:f(param:a param:b block)"},
		{"\n;BEGIN{};\n", "begin(block)"}, {";a;", "rule(var:a default)"}, {"\na\n\n", "rule(var:a default)"}, {";;{};;", "rule(always block)"}, {"\nfunction f(){}\n", "func:f(block)"},
		// One behind the other, with something between and without.
		{"BEGIN{}END{}", "begin(block) end(block)"}, {"BEGIN{};END{}", "begin(block) end(block)"}, {"BEGIN{}\n;\nEND{}", "begin(block) end(block)"}, {"{}{}", "rule(always block) rule(always block)"}, {"a{}b{}", "rule(var:a block) rule(var:b block)"}, {"a\nb", "rule(var:a default) rule(var:b default)"}, {"a;b", "rule(var:a default) rule(var:b default)"}, {"a;;\n;b", "rule(var:a default) rule(var:b default)"}, {"a\n{}", "rule(var:a default) rule(always block)"}, {"a;{}", "rule(var:a default) rule(always block)"}, {"{}a", "rule(always block) rule(var:a default)"}, {"END{}a", "end(block) rule(var:a default)"}, {"function f(){}function g(){}a", "func:f(block) func:g(block) rule(var:a default)"}, {"function f(){}{}", "func:f(block) rule(always block)"}, {"BEGIN{}BEGIN{}", "begin(block) begin(block)"}, {"{}/x/", "rule(always block) rule(re:x default)"},
		// An expression goes on as far as it can.
		{"a b", "rule(cat(var:a var:b) default)"}, {"a -b", "rule(sub(var:a var:b) default)"}, {"a;-b", "rule(var:a default) rule(neg(var:b) default)"}, {"a\n-b", "rule(var:a default) rule(neg(var:b) default)"}, {"a>b", "rule(greater(var:a var:b) default)"}, {"a=b{}", "rule(assign:=(var:a var:b) block)"}, {"a?b:c{}", "rule(cond(var:a var:b var:c) block)"}, {"a#{}\n{}", "rule(var:a default) rule(always block)"},
	})
	syntax(t, "BEGIN@", "END@", "BEGIN @x", "BEGIN@\n{}", "END@;{}", "BEGIN @BEGIN{}", "BEGIN @({})", "BEGIN{}@}", "@}", "@)", "@]", "@,", "@:", "a@}", "a @}{}", "a@,b{}", "a@)", "{@)}", "a @BEGIN{}", "a @function f(){}", "a@:", "@if(a)b", "@while(a){}", "@for(;;){}", "@print", "@print a", "@next", "@exit", "@return", "@delete a", "@else", "@in", "@break", "a in@", "a @print", "a=@{}", "a&&@", "{} @,", "@=1", "@>1", "@*a", "@?", "@~", "@<")
}

// P13.1: functions, their names, Newlines in and behind these.
func TestFunctions(t *testing.T) {
	checkItems(t, [][2]string{
		{"function f(a){}", "func:f(param:a block)"}, {"function f (){}", "func:f(block)"}, {"function f( a , b , c ){}", "func:f(param:a param:b param:c block)"}, {"function f(a)\n{}", "func:f(param:a block)"}, {"function f(a)\n\n \n{}", "func:f(param:a block)"}, {"function f(\n){}", "func:f(block)"}, {"function f(\n\na,\nb,\n\nc\n\n){}", "func:f(param:a param:b param:c block)"}, {"function f(a){return a}", "func:f(param:a block(return(var:a)))"}, {"function\\\nf(){}", "func:f(block)"}, {"function f(f,NR){}", "func:f(param:f param:NR block)"}, {"function f(a) # b\n{}", "func:f(param:a block)"},
	})
	syntax(t, "function@", "function @(){}", "function @\nf(){}", "function @1(){}", "function @BEGIN(){}", "function @length(a){}", "function @print(){}", "function f@", "function f@{}", "function f @\n(){}", "function f(@", "function f(@,){}", "function f(@1){}", "function f(a@", "function f(a @b){}", "function f(a,@){}", "function f(a,@,b){}", "function f(a,\n@){}", "function f(a@;){}", "function f(a\n@,b){}", "function f(a\n@;){}", "function f(a@[1]){}", "function f(@(a)){}", "function f(@$1){}", "function f(@\"a\"){}", "function f(@print){}", "function f(@int){}", "function f()@", "function f()@;{}", "function f()\n@", "function f()\n@;{}", "function f()@a", "function f()@a{}", "function f()\n@a{}", "function f@[a]{}", "function f(a){}@}", "function f(a,@b(c){}", "function f(@g()){}")
	banned(t, "function @system(){}", "function f(@close){}", "function f(a,@close){}", "function f(a @|b){}", "function f()@getline", "function f@|", "function @|", "function f()\n@|")
}

// P13.1: blocks, also empty ones, and what stands between statements.
func TestBlocks(t *testing.T) {
	check(t, [][2]string{{"{}", "program(rule(always block))"}, {"{;}", "program(rule(always block))"}, {"{\n}", "program(rule(always block))"}, {"{;\n; \n;;}", "program(rule(always block))"}, {"{#}\n}", "program(rule(always block))"}})
	checkBlocks(t, [][2]string{
		{"a", "expr(var:a)"}, {"a;", "expr(var:a)"}, {"a\n", "expr(var:a)"}, {";a", "expr(var:a)"}, {"\na", "expr(var:a)"}, {"\n;\na\n;\n", "expr(var:a)"}, {"a;b", "expr(var:a) expr(var:b)"}, {"a\nb", "expr(var:a) expr(var:b)"}, {"a;;b", "expr(var:a) expr(var:b)"}, {"a\n\n;\nb;;\n", "expr(var:a) expr(var:b)"}, {"a#b\nc", "expr(var:a) expr(var:c)"},
		{"{}", "block"}, {"{;}", "block"}, {"{}{}", "block block"}, {"{};{}", "block block"}, {"{{}}", "block(block)"}, {"{a}b", "block(expr(var:a)) expr(var:b)"}, {"{a;b}{c}", "block(expr(var:a) expr(var:b)) block(expr(var:c))"}, {"{a}\n{b}", "block(expr(var:a)) block(expr(var:b))"}, {"a;{b}c", "expr(var:a) block(expr(var:b)) expr(var:c)"}, {"if(a){}b", "if(var:a block) expr(var:b)"}, {"while(a){}{}", "while(var:a block) block"}, {"for(;;){}print", "for(none none none block) print(none)"},
	})
	syntax(t, "{@", "{a@", "{a;@", "{a\n@", "{{}@", "{{@", "{a @{}}", "{a @if(b)c}", "{a@)}", "{a@,b}", "{@)", "{@]}", "{@,}", "{@:}", "{@=}", "{@BEGIN{}}", "{@END}", "{@function f(){}}", "{@else}", "{@in}", "{a @else b}", "{a in@}", "{{}@)}", "{{}@,}", "BEGIN{@", "BEGIN{a@", "a{@", "a{b@", "function f(){@", "{@>a}", "{@<a}", "{@*a}", "{@?a:b}", "{@~a}", "{@&&a}")
}

// P13.1: above MaxSource the error of Lex is told; and of what Lex refuses, wherever it stands.
func TestErrorsOfLex(t *testing.T) {
	refused(t, api.ErrBig, "@"+strings.Repeat(" ", 4001), "@"+strings.Repeat("}", 4001), "@"+strings.Repeat("a;", 2000)+"a")
	check(t, [][2]string{{strings.Repeat(" ", 4000), "program"}, {strings.Repeat("\n", 4000), "program"}, {strings.Repeat("{}", 2000), "program(" + strings.TrimSuffix(strings.Repeat("rule(always block) ", 2000), " ") + ")"}})
	syntax(t, `@"`, `{a@"b}`, "}@`", "{getline @'", "{)@\"b", `{"@\q"}`, "@.", "{|@&}", "}{] ~/@\\", "} @\x00")
}
