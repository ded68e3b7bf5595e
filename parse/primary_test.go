package parse_test

import (
	"strconv"
	"strings"
	"testing"

	"scribe/parse"
)

// primaries: each thing that binds closest, and its tree; places are those that a value can be laid in.
var (
	places    = [][2]string{{"a", "var:a"}, {"a[1]", "index:a(num:1)"}, {"a [ b ]", "index:a(var:b)"}, {"$1", "field(num:1)"}, {"$a", "field(var:a)"}, {"$a[1]", "field(index:a(num:1))"}, {"$(a)", "field(var:a)"}, {"$$a", "field(field(var:a))"}, {"(a)", "var:a"}, {"(\n(a[1])\n)", "index:a(num:1)"}, {"($1)", "field(num:1)"}, {"$++b", "field(preinc(var:b))"}, {"$--b[1]", "field(predec(index:b(num:1)))"}, {"$f()", "field(call:f)"}, {`$"1"`, "field(str:1)"}, {"$/a/", "field(re:a)"}, {"$(-1)", "field(neg(num:1))"}, {"$length(a)", "field(builtin:length(var:a))"}}
	noPlaces  = [][2]string{{"1", "num:1"}, {"1.5", "num:1.5"}, {".5", "num:.5"}, {`"a"`, "str:a"}, {`""`, "str:"}, {`"\n\"/"`, "str:\n\"/"}, {"f()", "call:f"}, {"f(1)", "call:f(num:1)"}, {"f(\na,\n\nb\n)", "call:f(var:a var:b)"}, {"(1)", "num:1"}, {"(a+b)", "add(var:a var:b)"}, {"(-a)", "neg(var:a)"}, {"(a=1)", "assign:=(var:a num:1)"}, {"(a++)", "postinc(var:a)"}, {"length(a)", "builtin:length(var:a)"}, {"length()", "builtin:length"}, {"int(a)", "builtin:int(var:a)"}, {"rand()", "builtin:rand"}}
	primaries = append(places, noPlaces...)
)

// P13.1: each primary, alone and behind each sign.
func TestPrimaries(t *testing.T) {
	checkExpressions(t, primaries)
	for _, x := range primaries {
		for i, sign := range []string{"!", "-", "+", "$"} {
			op := []string{"not", "neg", "plus", "field"}[i]
			checkExpressions(t, [][2]string{{sign + " " + x[0], op + "(" + x[1] + ")"}, {sign + "(\n" + x[0] + "\n)", op + "(" + x[1] + ")"}})
		}
		checkExpressions(t, [][2]string{{"a " + x[0], "cat(var:a " + x[1] + ")"}, {x[0] + " b", "cat(" + x[1] + " var:b)"}})
	}
	checkExpressions(t, [][2]string{{"/a/", "re:a"}, {"//", "re:"}, {`/\/[a]b*/`, "re:/[a]b*"}, {"length", "builtin:length"}, {"(length)", "builtin:length"}, {"length b", "cat(builtin:length var:b)"}, {"length / 2", "div(builtin:length num:2)"}, {"length (a)", "builtin:length(var:a)"}, {"(length)(a)", "cat(builtin:length var:a)"}, {"length < 1", "less(builtin:length num:1)"}, {"$length", "field(builtin:length)"}, {"-length", "neg(builtin:length)"}, {"length ? length : length", "cond(builtin:length builtin:length builtin:length)"}})
	checkBlocks(t, [][2]string{{"length\n(a)", "expr(builtin:length) expr(var:a)"}, {"f (a)", "expr(cat(var:f var:a))"}, {"f()g()", "expr(cat(call:f call:g))"}})
	syntax(t, "{(@)}", "{(a@}", "{(a@,b)}", "{(a@;b)}", "{(\n@)}", "{(a\n@b)}", "{(a)@)}", "{(a@]}", "{a[@]}", "{a[1@}", "{a[1@,2]}", "{a[1@)}", "{a[1]@[2]}", "{a[\n@]}", "{a[1\n@2]}", "{a@]}", "{a\n@[1]}", "{(a)@[1]}", "{1@[1]}", "{f()@[1]}", "{f(@", "{f(@,)}", "{f(1@", "{f(1,@)}", "{f(1,\n@)}", "{f(1\n@,2)}", "{f(1@;)}", "{f(1 @print)}", "{f(@print)}", "{f(@next)}", "{\"a\"@[1]}", "{@BEGIN}", "{a@:}", "{length(@", "{length@[1]}")
	banned(t, "{(@|)}", "{(a@|)}", "{a[@|]}", "{a[1@|]}", "{f(@|)}", "{f(1@|)}", "{f(1,@close)}", "{(@systime)}", "{length @|}")
}

// P13.1: the pattern of a Regex has to be one.
func TestPatterns(t *testing.T) {
	for _, s := range []string{"(", ")", "a(", "*", "+a", "a|?", "[", "[z-a]", "[^", `\q`, strings.Repeat("a", 301), strings.Repeat("(", 21) + strings.Repeat(")", 21)} {
		syntax(t, "{@/"+s+"/}", "@/"+s+"/", "a ~ @/"+s+"/", "{f(a,@/"+s+"/)}", "{split(a,b,@/"+s+"/)}", "{a=@/"+s+"/}", "{print @/"+s+"/>a}", "{++(@/"+s+"/)}", "{$@/"+s+"/}", "{-@/"+s+"/;getline}")
	}
	for _, s := range []string{"", "a", "(a|b)*", "[]a]", `\\.`, "^$", strings.Repeat("a", 300), strings.Repeat("(", 20) + strings.Repeat(")", 20)} {
		checkItems(t, [][2]string{{"/" + s + "/", "rule(re:" + s + " default)"}, {"a~/" + s + "/{}", "rule(match(var:a re:" + s + ") block)"}})
	}
	// Of a String that stands as a pattern nothing is asked.
	checkItems(t, [][2]string{{`a ~ "("`, "rule(match(var:a str:() default)"}, {`{gsub("[",b)}`, "rule(always block(expr(builtin:gsub(str:[ var:b field(num:0)))))"}})
}

// P13.1: ++ and --, ahead of and behind what is a place and what is none.
func TestSteps(t *testing.T) {
	for i, sign := range []string{"++", "--"} {
		pre, post := []string{"preinc", "predec"}[i], []string{"postinc", "postdec"}[i]
		for _, x := range places {
			checkExpressions(t, [][2]string{{sign + x[0], pre + "(" + x[1] + ")"}, {x[0] + sign, post + "(" + x[1] + ")"}, {x[0] + " " + sign + " b", "cat(" + post + "(" + x[1] + ") var:b)"}, {sign + " " + x[0] + " b", "cat(" + pre + "(" + x[1] + ") var:b)"}, {"- " + x[0] + sign, "neg(" + post + "(" + x[1] + "))"}, {"- " + sign + x[0], "neg(" + pre + "(" + x[1] + "))"}, {"$" + x[0] + sign, post + "(field(" + x[1] + "))"}, {"$(" + x[0] + sign + ")", "field(" + post + "(" + x[1] + "))"}, {"$" + sign + x[0], "field(" + pre + "(" + x[1] + "))"}, {"$" + sign + x[0] + sign, post + "(field(" + pre + "(" + x[1] + ")))"}, {sign + "(" + x[0] + ")", pre + "(" + x[1] + ")"}, {"(" + x[0] + ")" + sign, post + "(" + x[1] + ")"}, {"a=" + x[0] + sign, "assign:=(var:a " + post + "(" + x[1] + "))"}, {sign + "$" + sign + x[0], pre + "(field(" + pre + "(" + x[1] + ")))"}, {"a " + x[0] + sign + " b", "cat(cat(var:a " + post + "(" + x[1] + ")) var:b)"}})
			for _, other := range []string{"++", "--"} {
				syntax(t, "{"+x[0]+sign+" @"+other+"}", "{"+x[0]+sign+" @"+other+" b}", "{"+sign+x[0]+" @"+other+"}", "{"+sign+" @"+other+x[0]+"}", "{("+x[0]+sign+")@"+other+"}", "{"+other+"("+sign+x[0]+")@}")
			}
		}
		for _, x := range append(noPlaces, [2]string{"(/a/)", "re:a"}, [2]string{"length", "builtin:length"}, [2]string{"(" + sign + "a)", pre + "(var:a)"}) {
			syntax(t, "{"+sign+x[0]+"@}", "{"+sign+x[0]+" @;}", "{"+sign+x[0]+"@\n}", "{"+sign+x[0]+" @b}", "{a="+sign+x[0]+" @+b}", "{"+sign+x[0]+"@", "{("+sign+x[0]+"@)}", "{$"+sign+x[0]+"@}", sign+x[0]+"@", "{"+sign+x[0]+" @print}")
			banned(t, "{"+sign+x[0]+" @| b}", "{"+sign+x[0]+" @close}")
			syntax(t, "{"+x[0]+"@"+sign+"}", "{"+x[0]+"@"+sign+"a}", "{a="+x[0]+" @"+sign+";}")
		}
		syntax(t, "{"+sign+"@}", "{"+sign+"@;a}", "{"+sign+"@\na}", "{"+sign+" @-a}", "{"+sign+"@/a/}", "{"+sign+" @!a}", "{"+sign+"@)}", "{"+sign+"@[a]}", "{"+sign+" @in a}", "{- "+sign+"@}", "{$"+sign+"@}", "{"+sign+"@=a}", "{!1@"+sign+"}")
		banned(t, "{"+sign+"@|}", "{"+sign+"@close}", "{a"+sign+"@|b}")
		checkExpressions(t, [][2]string{{"a" + sign + "- b", "sub(" + post + "(var:a) var:b)"}, {"a - " + sign + "b", "sub(var:a " + pre + "(var:b))"}, {"!a" + sign, "not(" + post + "(var:a))"}, {sign + "a[b" + sign + "]", pre + "(index:a(" + post + "(var:b)))"}, {"a" + sign + "(b)", "cat(" + post + "(var:a) var:b)"}, {"a" + sign + "/b/c", "div(div(" + post + "(var:a) var:b) var:c)"}, {"a" + sign + "*" + sign + "b", "mul(" + post + "(var:a) " + pre + "(var:b))"}})
	}
}

// P13.1: $ and what stands behind it.
func TestFields(t *testing.T) {
	checkExpressions(t, [][2]string{{"$1 $2", "cat(field(num:1) field(num:2))"}, {"$$$1", "field(field(field(num:1)))"}, {"$1+1", "add(field(num:1) num:1)"}, {"$(1+1)", "field(add(num:1 num:1))"}, {"-$1", "neg(field(num:1))"}, {"$NF", "field(var:NF)"}, {"$ $ ++a", "field(field(preinc(var:a)))"}, {"!$1", "not(field(num:1))"}, {"$f(a)", "field(call:f(var:a))"}})
	syntax(t, "{$@}", "{$@;}", "{$@\n1}", "{$@-1}", "{$@!a}", "{$@+1}", "{$@)}", "{$@]}", "{$$@}", "{$@=1}", "{$ @in a}", "{$ @print}", "{$@<1}", "{$1@[1]}", "{$@*a}", "$@", "{$@[1]}", "{$@-$1}")
	banned(t, "{$@|}", "{$@getline}", "{$1 @| a}")
}

// P13.1: side by side ahead of each token that it goes on with, and ahead of those that it ends at.
func TestSideBySide(t *testing.T) {
	for _, left := range [][2]string{{"a", "var:a"}, {"a[1]", "index:a(num:1)"}, {"1", "num:1"}, {`"x"`, "str:x"}, {"f(a)", "call:f(var:a)"}, {"(a)", "var:a"}, {"$1", "field(num:1)"}, {"a++", "postinc(var:a)"}, {"--a", "predec(var:a)"}, {"-a", "neg(var:a)"}, {"a*b", "mul(var:a var:b)"}, {"int(a)", "builtin:int(var:a)"}, {"(/x/)", "re:x"}} {
		for _, right := range [][2]string{{"2", "num:2"}, {".5", "num:.5"}, {`"y"`, "str:y"}, {"b", "var:b"}, {"b[1]", "index:b(num:1)"}, {"g()", "call:g"}, {"(b)", "var:b"}, {"(-b)", "neg(var:b)"}, {"$b", "field(var:b)"}, {"length", "builtin:length"}, {"int(b)", "builtin:int(var:b)"}, {"sub(b,c)", "builtin:sub(var:b var:c field(num:0))"}, {"b++", "postinc(var:b)"}, {"b+c", "add(var:b var:c)"}, {"b*c", "mul(var:b var:c)"}, {"b- -c", "sub(var:b neg(var:c))"}} {
			pair := "cat(" + left[1] + " " + right[1] + ")"
			checkExpressions(t, [][2]string{{left[0] + " " + right[0], pair}, {left[0] + "\\\n" + right[0], pair}, {left[0] + " " + right[0] + " c", "cat(" + pair + " var:c)"}, {left[0] + " " + right[0] + " ~ c", "match(" + pair + " var:c)"}})
		}
		syntax(t, "{"+left[0]+" @!b}", "{"+left[0]+" @print}", "{"+left[0]+" @if(a)b}", "{"+left[0]+" @function}", "{"+left[0]+" @{}}", "{"+left[0]+" @:}", "{"+left[0]+" @,}", "{"+left[0]+" @]}", "{"+left[0]+" @)}")
		banned(t, "{"+left[0]+" @|}", "{"+left[0]+" @strftime}")
		checkBlocks(t, [][2]string{{left[0] + ";b", "expr(" + left[1] + ") expr(var:b)"}, {left[0] + "\nb", "expr(" + left[1] + ") expr(var:b)"}, {left[0] + "\n(b)", "expr(" + left[1] + ") expr(var:b)"}, {left[0] + " -b", "expr(" + "sub(" + left[1] + " var:b)" + ")"}})
	}
	for n := 1; n < 40; n++ {
		s, want := "v0", "var:v0"
		for i := range n {
			s, want = s+" v"+strconv.Itoa(i), "cat("+want+" var:v"+strconv.Itoa(i)+")"
		}
		checkExpressions(t, [][2]string{{s, want}})
	}
}

// P13.1: rows of one sign are read from the left to the right, however long they are.
func TestLongRows(t *testing.T) {
	for _, signs := range between {
		for _, x := range signs {
			if x[1] == "less" || strings.HasSuffix(x[1], "eq") || strings.HasSuffix(x[1], "equal") || x[1] == "greater" {
				continue
			}
			n := 3990 / (len(x[0]) + 1)
			want := strings.Repeat(x[1]+"(", n) + "num:1" + strings.Repeat(" num:1)", n)
			checkItems(t, [][2]string{{"1" + strings.Repeat(x[0]+"1", n), "rule(" + want + " default)"}})
		}
	}
	const n = 799
	checkItems(t, [][2]string{{"a" + strings.Repeat(" in m", n), "rule(" + strings.Repeat("in:m(", n) + "var:a" + strings.Repeat(")", n) + " default)"}})
	if _, _, e := parse.Parse("{f(" + strings.Repeat("a,", 1990) + "a)}"); e != 0 {
		t.Errorf("a long list: %d", e)
	}
}
