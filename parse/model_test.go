package parse_test

import (
	"strings"
	"testing"

	"scribe/parse"
)

// checkModel: is a text taken, or refused where the grammar says?
func checkModel(t *testing.T, g *grammar, s string) bool {
	t.Helper()
	wantAt, want := g.model(s)
	n, at, e := parse.Parse(s)
	if e != want || at != wantAt || e != 0 && !zero(n) {
		t.Errorf("Parse(%q): %s, %d at %d, want %d at %d", s, short(n), e, at, want, wantAt)
	}
	return e == 0
}

// rows goes through all rows of so many of the words, with blanks between.
func rows(words []string, n int, do func(string)) {
	if n == 0 {
		do("")
		return
	}
	rows(words, n-1, func(s string) {
		for _, w := range words {
			do(s + w + " ")
		}
	})
}

const everyToken = "\n 1 \"\" /a/ /(/ a f( BEGIN END function if else while for in break continue next exit return delete print printf += -= *= /= %= == <= >= != ++ -- && || >> !~ { } ( ) [ ] ; , + - * / % ! > < | ? : ~ $ = length length( int( split( gsub( srand( rand getline"

// P13.1: all rows of one, two and, of the tokens that matter, of more tokens, in each place.
func TestEachRow(t *testing.T) {
	g := newGrammar()
	all := append(strings.Fields(everyToken), "\n")
	taken := 0
	for _, x := range []struct {
		ahead, behind, words string
		n                    int
	}{
		{"", "", "", 2}, {"{", "}", "", 2}, {"{a ", "}", "", 2}, {"{print ", ";}", "", 2}, {"{print(a", ")}", "", 2}, {"{if(a)", "}", "", 2}, {"{for(", ";;)a}", "", 2}, {"{for(;;", ")a}", "", 2}, {"{x=(", ")}", "", 2}, {"{$", "}", "", 2}, {"function f(", "){}", "", 2}, {"{split(a,", ")}", "", 2}, {"{gsub(a,b,", ")}", "", 2}, {"{a?", ":b}", "", 2}, {"{if(a)b", " else c}", "", 2},
		{"{", "}", "a 1 + ++ ( ) $ = ! in < >", 4}, {"{print ", "}", "a , ( ) > >> < \n ; f(", 4}, {"{printf ", ";}", "a , ( ) > ? : [ ]", 4}, {"{if(a)", "}", "a ; \n else { } if(b)", 5}, {"{for(", ")a}", "k in ; \n m ( )", 5}, {"", "", "a { } ; \n BEGIN", 5}, {"function f", "{}", "a ( ) , \n ;", 5}, {"{", "}", "a ? : \n = ( )", 5}, {"{", "}", "a $ ++ -- ( ) 1", 5}, {"{", "}", "a [ ] ( ) , \n f( sub(", 4}, {"{", "}", "a < > ~ in && \n", 5}, {"{", "}", "split( sub( a , ) 1 srand(", 4}, {"{print ", " }", "a ( ) > in ; printf", 5},
	} {
		words := all
		if x.words != "" {
			words = strings.Split(x.words, " ")
		}
		for n := range x.n + 1 {
			rows(words, n, func(s string) {
				if checkModel(t, g, x.ahead+s+x.behind) {
					taken++
				}
			})
			if t.Failed() {
				return
			}
		}
	}
	if taken < 5000 {
		t.Errorf("%d are taken", taken)
	}
}
