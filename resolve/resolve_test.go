package resolve_test

import (
	"fmt"
	"slices"
	"strings"
	"testing"

	"scribe/api"
	"scribe/ast"
	"scribe/parse"
	"scribe/resolve"
)

const specials = "NR NF FS OFS ORS FILENAME RSTART RLENGTH"

func parsed(t *testing.T, s string) ast.Node {
	t.Helper()
	n, at, e := parse.Parse(s)
	if e != api.OK {
		t.Fatalf("Parse(%q): %d at %d", s, e, at)
	}
	return n
}

// told: names in a row, those of arrays with [] behind.
func told(names []string, arrays []bool) string {
	var l []string
	for i, name := range names {
		if arrays[i] {
			name += "[]"
		}
		l = append(l, name)
	}
	return strings.Join(l, " ")
}

// short: all that an Info says: functions with their params, and then the global names.
func short(x *resolve.Info) string {
	if x == nil {
		return "nil"
	}
	var out strings.Builder
	for _, f := range x.Funcs {
		fmt.Fprintf(&out, "%s(%s) ", f.Name, told(f.Params, f.Arrays))
	}
	return out.String() + "| " + told(x.Globals, x.Arrays)
}

// check: programs and what their names are.
func check(t *testing.T, l [][2]string) {
	t.Helper()
	for _, s := range l {
		n := parsed(t, s[0])
		x, at, e := resolve.Resolve(n)
		if got := short(x); e != api.OK || at != 0 || strings.TrimSpace(got) != s[1] {
			t.Errorf("Resolve(%q): %s, %d at %d, want %s", s[0], got, e, at, s[1])
			continue
		}
		if len(x.Globals) != len(x.Arrays) {
			t.Errorf("Resolve(%q): %q, %v", s[0], x.Globals, x.Arrays)
		}
		checkBodies(t, s[0], n, x)
	}
}

// checkBodies: each function has its block.
func checkBodies(t *testing.T, s string, n ast.Node, x *resolve.Info) {
	t.Helper()
	var blocks []ast.Node
	for _, item := range n.Kids {
		if item.Op == "func" {
			blocks = append(blocks, item.Kids[len(item.Kids)-1])
		}
	}
	if !slices.EqualFunc(blocks, x.Funcs, func(block ast.Node, f resolve.Func) bool {
		return equal(block, f.Body) && len(f.Params) == len(f.Arrays)
	}) {
		t.Errorf("Resolve(%q): %v", s, x.Funcs)
	}
}

func equal(a, b ast.Node) bool {
	return a.Op == b.Op && a.Text == b.Text && a.At == b.At && slices.EqualFunc(a.Kids, b.Kids, equal)
}

// refused: each program is refused at the place where @ stands in it.
func refused(t *testing.T, want api.Errno, l ...string) {
	t.Helper()
	for _, x := range l {
		at := strings.IndexByte(x, '@')
		s := x[:at] + x[at+1:]
		if info, bad, e := resolve.Resolve(parsed(t, s)); info != nil || bad != at || e != want {
			t.Errorf("Resolve(%q): %s, %d at %d, want %d at %d", s, short(info), e, bad, want, at)
		}
	}
}

func kind(t *testing.T, l ...string) {
	t.Helper()
	refused(t, api.ErrKind, l...)
}

// P14.1: the chapter's example, and that of the document.
func TestExamples(t *testing.T) {
	check(t, [][2]string{{"function f(a){a[1]=1} BEGIN{f(x);print x[1]}", "f(a[]) | x[]"}})
	kind(t, "function f(a){a[1]=1} BEGIN{f(x);print @x}", "BEGIN{a[1]=1;print @a}")
}

// P14.1: single values and arrays by what they stand in; the order of the looking.
func TestGlobals(t *testing.T) {
	check(t, [][2]string{
		{"", "|"}, {"{}", "|"}, {"1", "|"}, {"a", "| a"}, {"{a}", "| a"}, {"a[1]", "| a[]"}, {"a in b", "| b[] a"}, {"{delete a}", "| a[]"}, {"{delete a[b]}", "| a[] b"}, {"{split(a,b)}", "| a b[]"}, {"{split(a,b,c)}", "| a b[] c"}, {"{for(a in b)c}", "| a b[] c"}, {"a[b]", "| a[] b"}, {"a[b[c]]", "| a[] b[] c"}, {"a in b in c", "| c[] b[] a"}, {"(a in b) in c", "| c[] b[] a"}, {"$a=b", "| a b"}, {"a=b", "| a b"}, {"a[b]=c[d]", "| a[] b c[] d"}, {"{sub(a,b,c)}", "| a b c"}, {"{gsub(a,b,c[d])}", "| a b c[] d"}, {"{sub(a,b)}", "| a b"}, {"++a", "| a"}, {"a[1]--", "| a[]"}, {"{length(a)}", "| a"},
		// Each once, where it is met first; what print goes to stands ahead of what is printed.
		{"a;b;a;c;b", "| a b c"}, {"{b=a;a=b}", "| b a"}, {"{print a,b>c}", "| c a b"}, {"{printf a>>b}", "| b a"}, {"{for(a;b;c)d}", "| a b c d"}, {"{if(a)b;else c}", "| a b c"}, {"{while(a)b}", "| a b"}, {"a?b:c", "| a b c"}, {"{exit a}", "| a"}, {"BEGIN{c}END{b}a{d}", "| c b a d"}, {"function f(){b}{a}", "f() | b a"}, {"{a}function f(){b;a}", "f() | a b"}, {"{a=1}END{b=a}", "| a b"}, {"a b-c", "| a b c"}, {"{for(k in m){m[k];k}}", "| k m[]"}, {"{a[1]}{a[2]}", "| a[]"},
		{"{f(b,a,c)}function f(x,y,z){y[1]}", "f(x y[] z) | b a[] c"}, {"{f(b[a],c)}function f(x,y){y[1]}", "f(x y[]) | b[] a c[]"}, {"{f(f(a))}function f(x){}", "f(x) | a"}, {"{f(a,a)}function f(x,y){}", "f(x y) | a"}, {"{f(a,a)}function f(x,y){x[1];y[1]}", "f(x[] y[]) | a[]"},
		// The names within functions are their params'.
		{"function f(a){a}", "f(a) |"}, {"function f(a){a[1]}", "f(a[]) |"}, {"function f(a){b}", "f(a) | b"}, {"function f(a){a[b]}", "f(a[]) | b"}, {"function f(a){a[1]}{a}", "f(a[]) | a"}, {"function f(a){a}{a[1]}", "f(a) | a[]"}, {"function f(a){a}function g(b){a[b]}", "f(a) g(b) | a[]"}, {"function f(a,b){for(a in b)c}", "f(a b[]) | c"}, {"function f(a,b){delete a;split(b,c)}", "f(a[] b) | c[]"}, {"function f(a){return a in b}", "f(a) | b[]"}, {"function f(){}", "f() |"}, {"function f(a,b,c){}", "f(a b c) |"}, {"function f(a){}function g(a){a[1]}", "f(a) g(a[]) |"}, {"function f (a){}{f(b)}", "f(a) | b"},
	})
}

// P14.1: the special names.
func TestSpecials(t *testing.T) {
	for _, name := range strings.Fields(specials) {
		check(t, [][2]string{{"{" + name + "}", "| " + name}, {"{" + name + "=1}", "| " + name}, {"{for(" + name + " in a);}", "| " + name + " a[]"}, {"{f(" + name + ")}function f(a){}", "f(a) | " + name}, {"function f(a){" + name + "++}", "f(a) | " + name}, {"function " + name + "(){}{" + name + "()}", name + "() |"}, {"{" + name + "x[1]}", "| " + name + "x[]"}, {"{" + strings.ToLower(name) + "[1]}", "| " + strings.ToLower(name) + "[]"}})
		kind(t, "{@"+name+"[1]}", "{a in @"+name+"}", "{delete @"+name+"}", "{delete @"+name+"[1]}", "{split(a,@"+name+")}", "{for(a in @"+name+");}", "{f(@"+name+")}function f(a){a[1]}", "function f(@"+name+"){}", "function f(a,@"+name+",b){}", "function f(@"+name+"){"+name+"[1]}", "{a=@"+name+"}{"+name+"[1]}", "{for(@"+name+" in a);"+name+"[1]}", "function f(a){@"+name+"[a]}", "function "+name+"(){}{@"+name+"}", "function "+name+"(){}{@"+name+"[1]}")
	}
}

// P14.1: what is used as single values' and arrays' names alike.
func TestKinds(t *testing.T) {
	arrays := []string{"a[1]", "1 in a", "delete a", "delete a[1]", "split(1,a)", "for(k in a);", "g(a)", "a[1]=1", "$a[1]", "sub(1,1,a[1])", "for(a[1];;);", "exit a[1]", "print>a[1]"}
	singles := []string{"@a", "x=@a", "@a=1", "@a++", "++@a", "$@a", "b[@a]", "@a in b", "for(@a in b);", "print @a", "print>@a", "h(-@a)", "length(@a)", "sub(1,1,@a)", "split(@a,b)", "if(@a);", "while(@a);", "for(;@a;);", "for(;;@a);", "exit @a", "@a?1:1", "1?@a:1", "!@a", "(@a)", "@a~1", "delete b[@a]", "h(b[@a])"}
	const functions = "function g(p){p[1]}function h(p){}"
	for _, array := range arrays {
		for _, single := range singles {
			kind(t, functions+"{"+array+";"+single+"}", "{"+single+"}"+functions+"END{"+array+"}", functions+"function f(a){"+array+";"+single+"}", "{"+array+"}"+functions+"function f(){"+single+"}")
			s := strings.ReplaceAll(single, "@", "")
			for _, text := range []string{functions + "{" + array + "}function f(a){" + s + "}", functions + "{" + s + "}function f(a){" + array + "}", functions + "function e(a){" + s + "}function f(a){" + array + "}"} {
				if _, at, e := resolve.Resolve(parsed(t, text)); e != api.OK {
					t.Errorf("Resolve(%q): %d at %d", text, e, at)
				}
			}
		}
	}
	kind(t, "{@a;a[1]}", "{a[@a]}", "{a[1]=@a}", "{@a in a}", "{for(@a in a);}", "{split(@a,a)}", "{a[a[@a]]}", "{b;@a;a[1]}", "{a[1]}{b}{c[@a]}", "{g(a)}function g(x){@x}{a[1]}", "{g(a,a)}function g(x,y){x[1];@y}", "{g(a,a)}function g(x,y){@x;y[1]}", "{g(a[1],a)}function g(x,y){x;@y}")
}

// P14.1: params and names become arrays by way of calls, there and back.
func TestArraysByCalls(t *testing.T) {
	check(t, [][2]string{
		{"function f(a){a[1]}{f(x)}", "f(a[]) | x[]"}, {"function f(a){}{f(x);x[1]}", "f(a[]) | x[]"}, {"{f(x);x[1]}function f(a){}", "f(a[]) | x[]"}, {"function f(a){}{f(x)}{x[1]}", "f(a[]) | x[]"}, {"function f(a,b){b[1]}{f(x,y)}", "f(a b[]) | x y[]"}, {"function f(a){}{f((x));x[1]}", "f(a[]) | x[]"},
		// Over several, in each order.
		{"function f(a){g(a)}function g(b){h(b)}function h(c){c[1]}{f(x)}", "f(a[]) g(b[]) h(c[]) | x[]"}, {"function h(c){c[1]}function g(b){h(b)}function f(a){g(a)}{f(x)}", "h(c[]) g(b[]) f(a[]) | x[]"}, {"{f(x)}{g(y)}function f(a){g(a)}function g(b){}END{x[1]}", "f(a[]) g(b[]) | x[] y[]"}, {"{f(x);f(y);g(y);g(z);z[1]}function f(a){}function g(a){}", "f(a[]) g(a[]) | x[] y[] z[]"}, {"function f(a){g(a)}function g(b){g(b)}{f(x);y[1];g(y)}", "f(a[]) g(b[]) | x[] y[]"},
		// Around in a circle.
		{"function f(a){g(a)}function g(b){f(b)}", "f(a) g(b) |"}, {"function f(a){g(a)}function g(b){f(b)}{g(x);delete x}", "f(a[]) g(b[]) | x[]"}, {"function f(a){g(a);a[1]}function g(b){f(b)}", "f(a[]) g(b[]) |"}, {"function f(a){f(a)}{f(x);f(y);1 in y}", "f(a[]) | x[] y[]"}, {"function f(a,b,c){f(b,c,a)}", "f(a b c) |"}, {"function f(a,b,c){f(b,c,a);b[1]}", "f(a[] b[] c[]) |"}, {"function f(a,b,c){f(a,c,b);b[1]}", "f(a b[] c[]) |"}, {"function f(a,b){f(b,a);a[1];f(x,y)}", "f(a[] b[]) | x[] y[]"}, {"function f(a){f(x)}{x[1]}", "f(a[]) | x[]"}, {"function f(a){f(x);x[1]}function x1(a){}", "f(a[]) x1(a) | x[]"},
		// What is no var alone hands nothing on.
		{"function f(a){}{f(x 1);f(-x);f($x);f(x=1);f(x++);f(x?x:x);f(y[1])}", "f(a) | x y[]"}, {"function f(a){}function g(b){b[1]}{f(g(x))}", "f(a) g(b[]) | x[]"}, {"function f(a){return a}{f(f(x))}", "f(a) | x"}, {"{int(x);y[1]}", "| x y[]"},
		// Too few arguments.
		{"function f(a,b){b[1]}{f();f(x);f(x,y)}", "f(a b[]) | x y[]"}, {"function f(a){a[1]}{f()}", "f(a[]) |"}, {"function f(){}{f()}", "f() |"},
		// A function's own names, and global ones of the same name.
		{"function f(a){a[1]}function g(x){f(x)}{x=1}", "f(a[]) g(x[]) | x"}, {"function f(x){}{f(x);x[1]}", "f(x[]) | x[]"}, {"function f(a){x[1];g(a)}function g(x){x=1}", "f(a) g(x) | x[]"}, {"function f(a){a[1]}function g(){f(x)}{x[1]}", "f(a[]) g() | x[]"},
	})
	kind(t, "function f(a){@a;g(a)}function g(b){b[1]}", "function f(a){g(a);@a}function g(b){h(b)}function h(c){delete c}", "{f(x);@x}function f(a){g(a)}function g(b){b[1]}", "{f(x);f(y);x[1];@y}function f(a){}", "{f(x);x[1]}function f(a){return @a}", "function f(a){g(a)}function g(b){@b;f(b)}{g(x);x[1]}", "function f(a,b,c){f(b,c,a);a[1];@c}", "function f(a){f(@x 1)}{x[1]}", "function f(a){@f(x 1);f(x)}{x[1]}", "function f(a){@f(x a);a[1]}", "{f(x)}function f(a){f(y);@y=1}BEGIN{x[1]}")
	// A long way, against the order.
	var s strings.Builder
	for i := range 100 {
		fmt.Fprintf(&s, "function f%d(a){f%d(a)}", i, i+1)
	}
	check(t, [][2]string{{s.String() + "function f100(a){}{f0(x)}", strings.TrimSpace(all("f%d(a) ", 101)) + " | x"}, {s.String() + "function f100(a){a[1]}{f0(x)}", strings.TrimSpace(all("f%d(a[]) ", 101)) + " | x[]"}, {s.String() + "function f100(a){}{f0(x);x[1]}", strings.TrimSpace(all("f%d(a[]) ", 101)) + " | x[]"}})
}

func all(form string, n int) string {
	var out strings.Builder
	for i := range n {
		fmt.Fprintf(&out, form, i)
	}
	return out.String()
}

// P14.1: calls of what isn't there, with too many arguments, with what is no var for an array.
func TestCalls(t *testing.T) {
	kind(t, "{@f()}", "{@f(1)}", "{a=@f(a)}", "function f(){@g()}", "function f(a){@a(1)}", "{@f(g())}", "function f(){}{@g()}", "function f(){}{@f(1)}", "function f(){}{@f(a)}", "function f(a){}{@f(1,2)}", "function f(a,b){}{f(1);f(1,2);@f(1,2,3)}", "function f(a){return @f(a,a)}", "{@f(1)}function f(){}", "{@x(1)}{x=1}", "{x=1;@x(1)}", "{@a(1);a[1]}",
		"function f(a){a[1]}{@f(1)}", "function f(a){a[1]}{@f(x[1])}", "function f(a){a[1]}{@f(-x)}", "function f(a){a[1]}{@f(x=1)}", "function f(a){a[1]}{@f($1)}", "function f(a){a[1]}{@f(f(x))}", "function f(a){a[1]}{@f(\"a\")}", "function f(a){a[1]}{@f(x y)}", "function f(a){a[1]}{@f(x in x)}", "function f(a,b){b[1]}{@f(x,y 1)}", "function f(a,b){b[1]}{@f(1,2)}", "function f(a){g(a)}function g(b){b[1]}{@f(1)}", "{@f(1)}{f(x);x[1]}function f(a){}", "function f(a){@f(a+1);a[1]}",
		// Argument by argument, the call ahead of all.
		"function f(a){a[1]}{@f(g(),h())}", "function f(a,b){b[1]}{f(@g(),1)}", "function f(a,b){a[1]}{@f(1,g())}", "function f(a,b){b[1]}{@f(x,1);x[1]}", "function f(a,b){b[1]}{f(x[@x],1)}", "function f(a,b){a[1]}{f(x,x[@y]);y[1]}", "function f(a,b,c){b[1]}{f(x,y,@g())}", "function f(a,b,c){c[1]}{f(x,@f(1,2,z 1),y)}", "function f(a,b){a[1]}{f(@f,1)}", "function f(a,b){b[1]}{f(@f,1)}", "function f(a,b){b[1]}{f(1,@f)}", "function f(a,b){b[1]}{f(1,@NR)}", "function f(a,b){a[1];b[1]}{f(@NF,1)}", "function f(a,b){a[1];b[1]}{@f(1,NR)}",
	)
	check(t, [][2]string{{"function f(a){return f(f(f(a)))}", "f(a) |"}, {"{f(1)}function f(a){}", "f(a) |"}, {"function f(a,b){}{f(g(),h(1))}function g(){}function h(a){}", "f(a b) g() h(a) |"}, {"function f(a){a[1]}{f((((x))))}", "f(a[]) | x[]"}})
}

// P14.1: names of functions as names of what isn't one; several functions of one name; params.
func TestFunctions(t *testing.T) {
	for _, s := range []string{"@f", "x=@f", "@f=1", "@f++", "@f[1]", "1 in @f", "delete @f", "delete @f[1]", "split(1,@f)", "for(@f in x);", "for(x in @f);", "$@f", "print @f", "print>@f", "x[@f]", "f(@f)", "length(@f)", "-@f"} {
		kind(t, "function f(a){}{"+s+"}", "{"+s+"}function f(a){}", "function f(a){"+s+"}", "function g(b){"+s+"}function f(a){}", "function e(){}function f(a){}END{"+s+"}")
	}
	kind(t, "function f(){}function @f(){}", "function f(){}function g(){}function @f(a){}", "function f(a){}{f(1)}function @f(){}", "function f(){}function @f(a,a){}", "function f(){}function @f(NR){}", "function f(){}function @f(f){}", "function f(){}function @f(){next}", "function f(){}function @f(){}function f(){}", "function f(){}function g(){}function @g(){}function f(){}",
		// An error ahead of the second one is told; its name's arguments are the first one's.
		"function f(){}{@f(1)}function f(a){}", "function f(a){}{@f(1,2)}function f(a,b){}", "{@f(1,2)}function f(a){}function f(a,b){}", "{f(1,2)}function f(a,b){}function @f(a){}", "{@f(1)}function f(a){a[1]}function f(b){}", "{f(1)}function f(a){}function @f(b){b[1]}", "{@f(1)}function f(a){}function f(b){a[1]}", "{f(x);@x}function f(a){}function f(b){a[1]}", "{@b}function f(a){}function f(b){b[1]}", "function f(b){@b}function f(a){b[1]}", "function f(a){return @a}function f(c){a[1]}",
		"function f(@f){}", "function f(@g){}function g(){}", "function f(a,@g){}function g(){}", "function g(){}function f(a,@g){}", "function f(a,@a){}", "function f(a,b,c,@b){}", "function f(a,@a,g,NR){}function g(){}", "function f(a,@g,a){}function g(){}", "function f(a,@NR,a){}", "function f(a,@a){a[1];a}", "function f(@g){g(1)}function g(g){}", "function f(a,@a){}function f(){}", "function f(@f){f[1];f}", "function f(@a1){}function a1(){}")
}
