package resolve_test

import (
	"strings"
	"testing"

	"scribe/api"
	"scribe/resolve"
)

func syntax(t *testing.T, l ...string) {
	t.Helper()
	refused(t, api.ErrSyntax, l...)
}

func taken(t *testing.T, l ...string) {
	t.Helper()
	for _, s := range l {
		if x, at, e := resolve.Resolve(parsed(t, s)); e != api.OK || at != 0 || x == nil {
			t.Errorf("Resolve(%q): %s, %d at %d", s, short(x), e, at)
		}
	}
}

// forms: where a statement may stand: in no loop, and in one.
var (
	outside = []string{"%;", "{%}", "if(1)%;", "if(1);else %;", "if(1){%}", "1;%;2", "while(1);%", "for(;;);%;", "for(k in m){}%;", "{{%}}", "if(1)if(1);else{%}"}
	inside  = []string{"while(1)%;", "for(;;)%;", "for(k in m)%;", "while(1){%}", "while(1)if(1)%;", "while(1)if(1);else{{%}}", "for(;;){while(1);%}", "for(k in m)for(;;){1;%}", "while(1){for(;;);for(k in m);%}", "if(1)while(1)%;", "for(%;;);", "for(;;%);"}
)

// P14.1: break and continue stand in loops alone, of all three sorts.
func TestBreak(t *testing.T) {
	for _, word := range []string{"break", "continue"} {
		for _, item := range []string{"{*}", "BEGIN{*}", "END{*}", "1{*}", "function f(){*}", "BEGIN{while(1);}{*}"} {
			for _, form := range outside {
				s := strings.Replace(form, "%", word, 1)
				syntax(t, strings.Replace(item, "*", strings.Replace(s, word, "@"+word, 1), 1))
			}
			for _, form := range inside {
				taken(t, strings.Replace(item, "*", strings.Replace(form, "%", word, 1), 1))
				syntax(t, strings.Replace(item, "*", strings.Replace(form, "%", word, 1)+"@"+word, 1))
			}
		}
		syntax(t, "function f(){while(1){}@"+word+"}{while(1)"+word+"}", "BEGIN{while(1)"+word+"}END{@"+word+"}")
	}
}

// P14.1: next stands in rules alone, return in functions alone, exit anywhere; in loops or not.
func TestNextAndReturn(t *testing.T) {
	for _, form := range append(append([]string{}, outside...), inside...) {
		for _, item := range []string{"{*}", "1{*}", "/x/{*}"} {
			taken(t, strings.Replace(item, "*", strings.Replace(form, "%", "next", 1), 1), strings.Replace(item, "*", strings.Replace(form, "%", "exit 1", 1), 1))
			for _, word := range []string{"return", "return 1"} {
				syntax(t, strings.Replace(item, "*", strings.Replace(form, "%", "@"+word, 1), 1))
			}
		}
		for _, item := range []string{"BEGIN{*}", "END{*}"} {
			for _, word := range []string{"next", "return", "return 1"} {
				syntax(t, strings.Replace(item, "*", strings.Replace(form, "%", "@"+word, 1), 1))
			}
			taken(t, strings.Replace(item, "*", strings.Replace(form, "%", "exit", 1), 1))
		}
		taken(t, "function f(){"+strings.Replace(form, "%", "return", 1)+"}", "function f(a){"+strings.Replace(form, "%", "return a", 1)+"}", "function f(){"+strings.Replace(form, "%", "exit", 1)+"}")
		syntax(t, "function f(){"+strings.Replace(form, "%", "@next", 1)+"}", "{next}function f(){return;"+strings.Replace(form, "%", "@next", 1)+"}", "function f(){return}{next;"+strings.Replace(form, "%", "@return", 1)+"}")
	}
}

// P14.1: of several errors the first one is told, node by node: a node ahead of its kids, the items in order.
func TestFirstError(t *testing.T) {
	syntax(t, "{@break;a[1];a}", "{@return f()}", "{@return a;a[1]}", "{@break;continue}", "END{@next;f()}", "BEGIN{@continue}function f(){}function f(){}", "function f(){@next}function f(){}", "function f(a){@break}function g(NR){}", "{@break}{f()}", "{while(1);@break;f()}", "{for(b;b;c)d;@break;a[1]}{a}")
	kind(t, "{@f();break}", "{a[1];@a;break}", "function f(@NR){break}", "function f(){}function @f(){next}", "{while(@f())break;break}", "{a[@f()];break}", "{if(@f())break}", "{exit @f()}END{next}",
		// The tree's order, not the text's.
		"{f()in @NR}", "{print g()>@f()}", "{print f(),g()>@h()}", "{print @f(),g()}", "{f()in @f}function f(){}", "{a[1];a in @NR}", "{a[1];print f()>>@a}", "{for(@NR in a)f();NR[1]}", "{for(k in @NR)f()}", "{for(@f in NR);}function f(){}", "{for(k in @NR){NR[1];g()}}", "{@NR[f()]}", "{@f[g()]}function f(){}", "{@f(g())}", "{@f(NR[1],2)}function f(a){}", "{f(@NR[1],2)}function f(a,b){}", "{delete @NR[f()]}", "{split(@f(),NR)}", "{split(a,@NR,f())}", "{x=@f()+g()}", "{@f()?g():h()}", "{x[@f()]=g()}", "{sub(@f(),g(),x[h()])}", "{for(@f();g();h())i()}", "{for(;@g();h())i()}", "{for(;;@h())i()}", "{while(@f())g()}", "{if(@f())g();else h()}", "{if(1)@g();else h()}", "{f(@g(),h())}function f(a,b){}", "@f(){g()}", "1{@f()}2{g()}", "{a[1]}{@a;f()}", "function f(a,@a){g()}", "function f(a){@g()}function f(a,a){}")
}
