package parse_test

import (
	"fmt"
	"strings"
	"testing"

	"scribe/api"
	"scribe/ast"
	"scribe/parse"
)

// placed: all nodes of a tree in order, with their places where these aren't 0.
func placed(n ast.Node) string {
	var l []string
	for _, x := range ast.All(n) {
		s := x.Op
		if x.At != 0 {
			s += fmt.Sprintf("@%d", x.At)
		}
		l = append(l, s)
	}
	return strings.Join(l, " ")
}

// P13.1: the place of each node: that of the token that its Text is of, or of its word; 0 of all others.
func TestPlaces(t *testing.T) {
	for _, x := range [][2]string{
		{" x", "program rule var@1 default"}, {" BEGIN {x}", "program begin block expr var@8"}, {"\nEND{ x}", "program end block expr var@6"}, {";function f (a,\n b){}", "program func@10 param@13 param@17 block"}, {" function f(){}", "program func@10 block"}, {" {}", "program rule always block"},
		{"{ {} }", "program rule always block block"}, {"{ if(a);else;}", "program rule always block if var@5 empty empty"}, {"{ while(a)b}", "program rule always block while var@8 expr var@10"}, {"{ for(a;b;c)d}", "program rule always block for expr var@6 var@8 expr var@10 expr var@12"}, {"{ for(;;);}", "program rule always block for none none none empty"}, {"{ for(k in m) a}", "program rule always block forin@6 name@11 expr var@14"},
		{"{ break; continue\nnext}", "program rule always block break@2 continue@9 next@18"}, {"{ exit; exit 1}", "program rule always block exit@2 exit@8 num@13"}, {"{ return; return 1}", "program rule always block return@2 return@10 num@17"}, {"{ delete a; delete a [ b ]}", "program rule always block delete name@9 delete index@19 var@23"},
		{"{ print; print a,b}", "program rule always block print none print none var@15 var@17"}, {"{ print a > b}", "program rule always block print to var@12 var@8"}, {"{ printf(a)>> b}", "program rule always block printf append var@14 var@9"},
		{" a = b", "program rule assign var@1 var@5 default"}, {" a += b *= c", "program rule assign var@1 assign var@6 var@11 default"}, {" a ? b : c", "program rule cond var@1 var@5 var@9 default"}, {" a || b && c", "program rule or var@1 and var@6 var@11 default"}, {" a in b in c", "program rule in@11 in@6 var@1 default"}, {" a ~ b !~ c", "program rule nomatch match var@1 var@5 var@10 default"}, {" a < b", "program rule less var@1 var@5 default"}, {" a b", "program rule cat var@1 var@3 default"}, {" a + b - c * d / e % f", "program rule sub add var@1 var@5 mod div mul var@9 var@13 var@17 var@21 default"}, {" ! - + a", "program rule not neg plus var@7 default"}, {" ++ a", "program rule preinc var@4 default"}, {" a --", "program rule postdec var@1 default"}, {" $ a", "program rule field var@3 default"},
		{" 1", "program rule num@1 default"}, {` "a"`, "program rule str@1 default"}, {` ""`, "program rule str@1 default"}, {" /a/", "program rule re@1 default"}, {" //", "program rule re@1 default"}, {" a [ b ]", "program rule index@1 var@5 default"}, {" f( a, b)", "program rule call@1 var@4 var@7 default"}, {" ( a )", "program rule var@3 default"}, {" length", "program rule builtin@1 default"}, {" length ( a )", "program rule builtin@1 var@10 default"}, {" split ( a, (b) )", "program rule builtin@1 var@9 name@13 default"}, {" sub ( a, b )", "program rule builtin@1 var@7 var@10 field num@1 default"}, {"{ gsub(a,b,c)}", "program rule always block expr builtin@2 var@7 var@9 var@11"}, {"{a;x=gsub(a,b)}", "program rule always block expr var@1 expr assign var@3 builtin@5 var@10 var@12 field num@5"},
	} {
		n, at, e := parse.Parse(x[0])
		if got := placed(n); e != api.OK || at != 0 || got != x[1] {
			t.Errorf("Parse(%q): %s, %d at %d, want %s", x[0], got, e, at, x[1])
		}
	}
}
