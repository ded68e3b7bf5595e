package parse_test

import (
	"strings"
	"testing"
)

// between: the signs between two parts and what they make of these, from what binds loosest to what binds closest; side by side is a blank. In stands between those of rows 1 and 2.
var between = [][][2]string{
	{{"||", "or"}}, {{"&&", "and"}}, {{"~", "match"}, {"!~", "nomatch"}}, {{"<", "less"}, {"<=", "lesseq"}, {"==", "equal"}, {"!=", "notequal"}, {">", "greater"}, {">=", "greatereq"}}, {{" ", "cat"}}, {{"+", "add"}, {"-", "sub"}}, {{"*", "mul"}, {"/", "div"}, {"%", "mod"}},
}

const (
	logical   = 2 // so many rows bind looser than in does
	relations = 3 // the row of which no two stand one behind the other
)

const assigning = "= += -= *= /= %="

// P13.1: each two signs between three parts, in both orders.
func TestEachTwoBetween(t *testing.T) {
	for i, firsts := range between {
		for k, seconds := range between {
			for _, x := range firsts {
				for _, y := range seconds {
					s := "a " + x[0] + " b " + y[0] + " c"
					switch {
					case i == k && i == relations:
						syntax(t, "{a "+x[0]+" b @"+y[0]+" c}", "{(a "+x[0]+" b @"+y[0]+" c)}", "a "+x[0]+" b @"+y[0]+" c")
					case i < k:
						checkExpressions(t, [][2]string{{s, x[1] + "(var:a " + y[1] + "(var:b var:c))"}})
					default:
						checkExpressions(t, [][2]string{{s, y[1] + "(" + x[1] + "(var:a var:b) var:c)"}})
					}
				}
			}
		}
	}
}

// P13.1: each sign between two parts, with all others around it.
func TestEachBetween(t *testing.T) {
	for _, signs := range between {
		for _, x := range signs {
			s, pair := "a "+x[0]+" b", x[1]+"(var:a var:b)"
			checkExpressions(t, [][2]string{
				{s, pair}, {"(a)" + x[0] + "(b)", pair}, {"((" + s + "))", pair}, {"(c = d) " + x[0] + " b", x[1] + "(assign:=(var:c var:d) var:b)"}, {"a " + x[0] + " (c = d)", x[1] + "(var:a assign:=(var:c var:d))"}, {"a " + x[0] + " (b " + x[0] + " c)", x[1] + "(var:a " + x[1] + "(var:b var:c))"}, {"(" + s + ") " + x[0] + " c", x[1] + "(" + pair + " var:c)"},
				{s + " ? c : d", "cond(" + pair + " var:c var:d)"}, {"c ? " + s + " : d", "cond(var:c " + pair + " var:d)"}, {"c ? d : " + s, "cond(var:c var:d " + pair + ")"}, {"c = " + s, "assign:=(var:c " + pair + ")"},
				{"! " + s, x[1] + "(not(var:a) var:b)"}, {"- " + s, x[1] + "(neg(var:a) var:b)"}, {"+ " + s, x[1] + "(plus(var:a) var:b)"}, {"-(" + s + ")", "neg(" + pair + ")"}, {"$ " + s, x[1] + "(field(var:a) var:b)"}, {"++ " + s, x[1] + "(preinc(var:a) var:b)"}, {"a ++ " + x[0] + " b --", x[1] + "(postinc(var:a) postdec(var:b))"},
				{"a " + x[0] + " $ b", x[1] + "(var:a field(var:b))"}, {"$(" + s + ")", "field(" + pair + ")"}, {"a[" + s + "]", "index:a(" + pair + ")"}, {"a " + x[0] + " b[1]", x[1] + "(var:a index:b(num:1))"}, {"a " + x[0] + " f(b)", x[1] + "(var:a call:f(var:b))"},
			})
			// What isn't a place takes no value.
			for _, sign := range strings.Fields(assigning) {
				syntax(t, "{a "+x[0]+" b@"+sign+" c}", "{(a "+x[0]+" b)@"+sign+" c}")
			}
		}
	}
}

// P13.1: what may stand behind a sign between two parts, and what may not.
func TestBehindEachBetween(t *testing.T) {
	for i, signs := range between {
		for _, x := range signs {
			if x[1] == "cat" {
				continue
			}
			checkExpressions(t, [][2]string{{"a " + x[0] + " ! b", x[1] + "(var:a not(var:b))"}, {"a " + x[0] + " - b", x[1] + "(var:a neg(var:b))"}, {"a " + x[0] + " + b", x[1] + "(var:a plus(var:b))"}, {"a " + x[0] + " -- b", x[1] + "(var:a predec(var:b))"}, {"a " + x[0] + " /b/", x[1] + "(var:a re:b)"}})
			syntax(t, "{a "+x[0]+"@}", "{a "+x[0]+"@;b}", "{(a "+x[0]+"@)}", "{a "+x[0]+"@,b}", "{a "+x[0]+"@* b}", "{a "+x[0]+" @~ b}", "{a "+x[0]+" @in b}", "{a "+x[0]+" @print}", "{a "+x[0]+" @= b}")
			banned(t, "{a "+x[0]+" @| b}", "{a @| b "+x[0]+" c}", "{a "+x[0]+" b @| c}", "{a "+x[0]+" @close}")
			if x[0] != "-" && x[0] != "+" {
				syntax(t, "{@"+x[0]+" a}", "{a "+x[0]+" @"+x[0]+" b}", "{(@"+x[0]+" a)}")
			}
			if i < logical {
				checkExpressions(t, [][2]string{{"a " + x[0] + "\n\nb", x[1] + "(var:a var:b)"}, {"a " + x[0] + "\nb " + x[0] + "\n#c\nc", x[1] + "(" + x[1] + "(var:a var:b) var:c)"}})
				syntax(t, "{a "+x[0]+"\n@;b}", "{a "+x[0]+"\n@}")
				continue
			}
			syntax(t, "{a "+x[0]+"@\nb}", "{(a "+x[0]+"@\nb)}", "{(a\n@"+x[0]+" b)}", "{f(a "+x[0]+"@\nb)}")
		}
	}
}

// P13.1: in stands ahead of Names alone, any often.
func TestIn(t *testing.T) {
	checkExpressions(t, [][2]string{
		{"a in m", "in:m(var:a)"}, {"a in m in n in o", "in:o(in:n(in:m(var:a)))"}, {"(a)in m", "in:m(var:a)"}, {"1 in m", "in:m(num:1)"}, {"/x/ in m", "in:m(re:x)"}, {"(a in m)", "in:m(var:a)"}, {"(a in m) b", "cat(in:m(var:a) var:b)"}, {"a[1] in m", "in:m(index:a(num:1))"}, {"a in m ? b : c", "cond(in:m(var:a) var:b var:c)"}, {"a ? b in m : c in n", "cond(var:a in:m(var:b) in:n(var:c))"}, {"x = a in m", "assign:=(var:x in:m(var:a))"}, {"!a in m", "in:m(not(var:a))"}, {"$a in m", "in:m(field(var:a))"}, {"a++ in m", "in:m(postinc(var:a))"}, {"a in a", "in:a(var:a)"}, {"$(a in m)", "field(in:m(var:a))"}, {"f(a)in m", "in:m(call:f(var:a))"},
	})
	for i, signs := range between {
		for _, x := range signs {
			if i < logical {
				checkExpressions(t, [][2]string{{"a in m " + x[0] + " b in n", x[1] + "(in:m(var:a) in:n(var:b))"}, {"a " + x[0] + " b in m", x[1] + "(var:a in:m(var:b))"}, {"a in m " + x[0] + " b", x[1] + "(in:m(var:a) var:b)"}})
				continue
			}
			checkExpressions(t, [][2]string{{"a " + x[0] + " b in m", "in:m(" + x[1] + "(var:a var:b))"}, {"a " + x[0] + " (b in m)", x[1] + "(var:a in:m(var:b))"}})
			if x[1] == "cat" {
				syntax(t, "{a in m @b}", "{a in m @(b)}")
				continue
			}
			syntax(t, "{a in m @"+x[0]+" b}")
		}
	}
	syntax(t, "{a in@}", "{a in @1}", "{a in @m(1)}", "{a in @(m)}", "{a in @$m}", "{a in m@[1]}", "{a in@\nm}", "{a\n@in m}", "{(a in@\nm)}", "{(a\n@in m)}", "{a in m@++}", "{a in m@=b}", "{(a@,b)in m}", "{@in m}", "{a in @\"m\"}", "{a in @in m}", "{a in @length}")
	banned(t, "{a in @close}", "{a in m@|}")
}

// P13.1: ? and :, and each sign that lays something.
func TestCondAndAssign(t *testing.T) {
	checkExpressions(t, [][2]string{
		{"a?b:c", "cond(var:a var:b var:c)"}, {"a?b:c?d:e", "cond(var:a var:b cond(var:c var:d var:e))"}, {"a?b?c:d:e", "cond(var:a cond(var:b var:c var:d) var:e)"}, {"(a?b:c)?d:e", "cond(cond(var:a var:b var:c) var:d var:e)"}, {"a?\n\nb\n\n:\n\nc", "cond(var:a var:b var:c)"}, {"a?b\n:c", "cond(var:a var:b var:c)"}, {"a?b=c:d=e", "cond(var:a assign:=(var:b var:c) assign:=(var:d var:e))"}, {"a?-b:!c", "cond(var:a neg(var:b) not(var:c))"}, {"a||b?c:d", "cond(or(var:a var:b) var:c var:d)"}, {"(a?b:c)d", "cat(cond(var:a var:b var:c) var:d)"}, {"a?(b):(c)", "cond(var:a var:b var:c)"}, {"a?b:c d", "cond(var:a var:b cat(var:c var:d))"},
		{"a=b?c:d", "assign:=(var:a cond(var:b var:c var:d))"}, {"a=b=c=d", "assign:=(var:a assign:=(var:b assign:=(var:c var:d)))"}, {"a=b+=c", "assign:=(var:a assign:+=(var:b var:c))"}, {"a=\n\nb", "assign:=(var:a var:b)"}, {"(a=b)c", "cat(assign:=(var:a var:b) var:c)"}, {"(a)=b", "assign:=(var:a var:b)"}, {"((a))=(b)", "assign:=(var:a var:b)"}, {"a=(b=c)", "assign:=(var:a assign:=(var:b var:c))"}, {"($1)=a", "assign:=(field(num:1) var:a)"}, {"(a[1])=b", "assign:=(index:a(num:1) var:b)"}, {"a[b=1]=c", "assign:=(index:a(assign:=(var:b num:1)) var:c)"}, {"$a=b", "assign:=(field(var:a) var:b)"}, {"$a[1]=b", "assign:=(field(index:a(num:1)) var:b)"}, {"$(a)=b", "assign:=(field(var:a) var:b)"}, {"$++a=b", "assign:=(field(preinc(var:a)) var:b)"}, {"$$a=b", "assign:=(field(field(var:a)) var:b)"}, {"$\"a\"=b", "assign:=(field(str:a) var:b)"}, {"$f(a)=b", "assign:=(field(call:f(var:a)) var:b)"}, {"a=b~c", "assign:=(var:a match(var:b var:c))"},
	})
	for _, sign := range strings.Fields(assigning) {
		checkExpressions(t, [][2]string{
			{"a" + sign + "b", "assign:" + sign + "(var:a var:b)"}, {"a[1]" + sign + "b", "assign:" + sign + "(index:a(num:1) var:b)"}, {"$1" + sign + "b", "assign:" + sign + "(field(num:1) var:b)"}, {"(a)" + sign + "\nb", "assign:" + sign + "(var:a var:b)"}, {"a" + sign + "-b", "assign:" + sign + "(var:a neg(var:b))"}, {"a" + sign + " /b/", "assign:" + sign + "(var:a re:b)"}, {"a " + sign + " b " + sign + " c", "assign:" + sign + "(var:a assign:" + sign + "(var:b var:c))"},
		})
		syntax(t, "{a"+sign+"@}", "{a"+sign+"@;b}", "{a"+sign+"\n@;b}", "{a"+sign+" @= b}", "{@"+strings.TrimLeft(sign, "+-/")+"}", "{(a\n@"+sign+"b)}")
		for _, s := range []string{"1", "\"a\"", "f(a)", "length", "length(a)", "a++", "--a", "-a", "!a", "(1)", "(a=b)", "(a?b:c)", "a?b:1", "(a b)", "$a++", "a in m", "(-a)", "(f(a))", "$1--"} {
			syntax(t, "{"+s+" @"+sign+" b}", "{x = "+s+" @"+sign+" b}", "{("+s+")@"+sign+" b}", s+" @"+sign+" b")
		}
	}
	for _, s := range []string{"/a/", "(/a/)", "(a~/a/)"} {
		syntax(t, "{"+s+" @= b}", "{"+s+" @+= b}")
	}
	syntax(t, "{a?@}", "{a?@:b}", "{a?b@}", "{a?b@;c}", "{a?b:@}", "{a?b:@;}", "{a?b:c@:d}", "{a?b\n@c}", "{a?b\n@}", "{a?b\n@;c}", "{a?b:\n@}", "{a?\n@:b}", "{a\n@?b:c}", "{(a\n@?b:c)}", "{@?b:c}", "{a?b@,c:d}", "{a@:b}", "{a?b:c?@}", "{a?b:c?d@}", "{a b @= c}")
	banned(t, "{a?@|}", "{a?b@|}", "{a?b:@close}", "{a=@|}", "{a=@getline}", "{a?b\n@|}")
}
