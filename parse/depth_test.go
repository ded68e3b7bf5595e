package parse_test

import (
	"strings"
	"testing"

	"scribe/api"
	"scribe/parse"
)

// nests: how an expression is written within another one, how many levels that is, and how far ahead of what stands in the middle the last one of them begins first.
var nests = []struct {
	open, close  string
	levels, back int
}{
	{"(", ")", 1, 0}, {"(\n", "\n)", 1, 0}, {"!", "", 1, 0}, {"- ", "", 1, 0}, {"+ ", "", 1, 0}, {"$", "", 1, 0}, {"a[", "]", 1, 0}, {"f(", ")", 1, 0}, {"f(b, ", ", c)", 1, 3}, {"length(", ")", 1, 0}, {"a=", "", 1, 0}, {"a[b]+=\n", "", 1, 5}, {"a?b:", "", 1, 2}, {"a?", ":b", 1, 0}, {"$(", ")", 2, 0}, {"-(", ")", 2, 0}, {"!-$(", ")", 4, 0}, {"$a[", "]", 2, 0}, {"1+(", ")*2", 1, 0}, {"$++a[", "]", 2, 0}, {"$1=", "", 1, 2}, {"b ~ -a[", "]", 2, 0}, {"a b (", ") c", 1, 0}, {"++a[", "]", 1, 0}, {"substr(a,(", "))", 2, 0}, {"sub(a,b,$", ")", 2, 0},
}

// checkDeep: a text whose middle lies so many levels deep is taken up to 50; else it is refused, at the place where the 51st begins.
func checkDeep(t *testing.T, s string, levels, middle int) {
	t.Helper()
	_, at, e := parse.Parse(s)
	if levels <= 50 && e == api.OK || levels == 51 && e == api.ErrDeep && at == middle || levels > 51 && e == api.ErrDeep && at < middle {
		return
	}
	t.Errorf("Parse(%.90q), %d levels, the middle is at %d: %d at %d", s, levels, middle, e, at)
}

// P13.1: expressions, signs and $ within one another, up to MaxDepth and beyond.
func TestDeepExpressions(t *testing.T) {
	for _, x := range nests {
		for n := 1; n <= 60; n++ {
			s := strings.Repeat(x.open, n) + "z" + strings.Repeat(x.close, n)
			levels, middle := n*x.levels, n*len(x.open)-x.back
			checkDeep(t, s, 1+levels, middle)
			checkDeep(t, s+"{}", 1+levels, middle)
			for _, around := range []struct {
				ahead, behind string
				levels        int
			}{{"{", "}", 2}, {"BEGIN{if(", ");}", 2}, {"{x=", "}", 3}, {"{print z,", "}", 2}, {"{print(", ",z)>z}", 2}, {"{print a>(", ")}", 2}, {"{{exit ", "}}", 3}, {"{for(;", ";);}", 2}, {"function f(){return ", "}", 2}, {"{if(a)b;else return ", "}", 3}, {"{while(a)while(", ");}", 3}, {"{delete a[", "]}", 2}, {"{-!(", ")}", 5}} {
				checkDeep(t, around.ahead+s+around.behind, around.levels+levels, len(around.ahead)+middle)
			}
		}
	}
}

// P13.1: each two ways in which expressions stand within one another, mixed, also within statements.
func TestDeepMixed(t *testing.T) {
	for _, x := range nests {
		for _, y := range nests {
			for n := 10; n < 40; n += 3 {
				s := "(" + strings.Repeat(y.open, n) + "z" + strings.Repeat(y.close, n) + ")"
				levels, middle := 1+n*y.levels, 1+n*len(y.open)-y.back
				for m := 48 - n; m <= 50-n; m++ {
					checkDeep(t, strings.Repeat(x.open, m)+s+strings.Repeat(x.close, m), 1+m*x.levels+levels, m*len(x.open)+middle)
				}
				m := min(n, 48-n)
				ahead := strings.Repeat("{", 49-n-m) + strings.Repeat(x.open, m)
				checkDeep(t, ahead+s+strings.Repeat(x.close, m)+strings.Repeat("}", 49-n-m), 50-n-m+m*x.levels+levels, len(ahead)+middle)
			}
		}
	}
}

// P13.1: statements within one another. What stands around the middle one has so many levels of its own.
func TestDeepStatements(t *testing.T) {
	for _, x := range []struct {
		open, close string
		own         int
	}{
		{"{", "}", 0}, {"if(a)", "", 1}, {"while(a)\n\n", "", 1}, {"for(;;)", "", 0}, {"for(k in m)", "", 0}, {"if(a){}else ", "", 1}, {"if(a);else\n", "", 1}, {"if(a)b\n;else ", "", 2}, {"{a;b;", "}", 2}, {"{if(a)b;", ";c}", 3}, {"if(a)", "\nelse b", 2}, {"for(a;b;c)", "", 1},
	} {
		for n := 1; n <= 60; n++ {
			for _, middle := range []struct {
				s      string
				levels int
			}{{"next;", 1}, {"{}", 1}, {"{;}", 1}, {"print;", 1}, {"delete a;", 1}, {"print>y;", 1}, {"z;", 2}, {"print z;", 2}, {"print z>y;", 2}, {"exit z;", 2}, {"{if(z);}", 3}, {"while(z);", 2}, {"for(;;);", 2}, {"for(z in y);", 2}, {"for(z;y;x);", 2}, {"{next}", 2}, {"-z;", 3}, {"z=y;", 3}, {"{z}", 3}, {"a[z=y];", 4}} {
				for _, around := range [][2]string{{"{", "}"}, {"BEGIN{", "}"}, {"function f(a)\n{", ";}"}, {"a{b;", "\n}"}} {
					from := len(around[0]) + len(x.open)*n
					s := around[0] + strings.Repeat(x.open, n) + middle.s + strings.Repeat(x.close, n) + around[1]
					_, at, e := parse.Parse(s)
					levels := n + max(middle.levels, x.own)
					if levels <= 50 != (e == api.OK) || levels > 50 && e != api.ErrDeep || levels == 51 && middle.levels > x.own && (at < from || at >= from+len(middle.s)) {
						t.Errorf("Parse(%.90q), %d levels, the middle is at %d: %d at %d", s, levels, from, e, at)
					}
				}
			}
		}
	}
}

// P13.1: a level too much is told where it begins, of signs behind them; each kind of thing, as the 51st one.
func TestDeepPlaces(t *testing.T) {
	for _, s := range []string{"@1", "\n\n@a", "@(b)", "@\"\"", "@!b"} {
		refused(t, api.ErrDeep, strings.Repeat("(", 50)+s)
	}
	for _, s := range []string{"!@a", "- \\\n @a", "+ @c", "!@!!", "$@1", "$ @++a", "$@$$1", "$@(a)", "a[@b]", "a[\n@b]", "f(@b)", "f(\n\n@b)", "length(@b)", "a=@b", "a=\n@b", "a[@1]=b", "a?@b", "a?\n\n@b", "b+!@a", "1 f(@b)", "a||!@b", "++a[@b]", "a<b&&c[@d]"} {
		refused(t, api.ErrDeep, strings.Repeat("(", 49)+s)
	}
	for _, s := range []string{"@{", "@a", "\n;\n@a", "@if(a);", "@print", "@next", "@while(a);", "@for(;;);", "@delete a"} {
		refused(t, api.ErrDeep, "{"+strings.Repeat("{", 50)+s)
	}
	for _, s := range []string{"if(@a)", "while(\n@a)", "exit @a", "return\\\n@(a)", "for(@a;;)", "for(;@a;)", "for(;;@a)", "for(;;)@a", "for(;;)\n@;", "for(k in m)@{", "print @a", "print(@a)", "print>a[@b]", "print > -@b", "delete a[@1]", "{@{}}", "{@b}"} {
		refused(t, api.ErrDeep, "{"+strings.Repeat("{", 49)+s)
	}
	for _, s := range []string{"x=@y", "-@a", "{exit @a}", "if(a[@b]);", "if(a)@b[c];", "$@a", "f(@b)", "x?@y:z"} {
		refused(t, api.ErrDeep, "{"+strings.Repeat("{", 48)+s)
	}
}
