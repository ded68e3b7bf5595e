package lex_test

import (
	"slices"
	"strings"
	"testing"
	"unsafe"

	"scribe/api"
	"scribe/lex"
)

// The chapter's lists.
const (
	words    = "BEGIN END function if else while for in break continue next exit return delete print printf"
	builtins = "length substr index split sub gsub match tolower toupper int sprintf rand srand"
	banned   = "getline system close fflush systime strftime"
	signs    = "+= -= *= /= %= == <= >= != ++ -- && || >> !~ { } ( ) [ ] ; , + - * / % ! > < | ? : ~ $ ="
)

// told: what Print tells of a text's tokens, without the one at the end, which has to be there.
func told(t *testing.T, s string) string {
	t.Helper()
	l, at, e := lex.Lex(s)
	last := len(l) - 1
	if e != api.OK || at != 0 || last < 0 || l[last] != (lex.Token{Kind: lex.End, At: len(s)}) {
		t.Errorf("Lex(%.60q): %v, %d at %d", s, l, e, at)
		return ""
	}
	checkPlaces(t, s, l)
	return strings.TrimSuffix(lex.Print(l[:last]), " ")
}

// checkPlaces: the places rise, and at each stands what its token begins with.
func checkPlaces(t *testing.T, s string, l []lex.Token) {
	t.Helper()
	ahead := -1
	for _, x := range l {
		first := x.Text
		switch x.Kind {
		case lex.Newline:
			first = "\n"
		case lex.String:
			first = `"`
		case lex.Regex:
			first = "/"
		}
		if x.At <= ahead || x.At > len(s) || !strings.HasPrefix(s[x.At:], first) {
			t.Errorf("Lex(%.60q): %v behind %d", s, x, ahead)
			return
		}
		ahead = x.At
	}
}

// check: texts and what is told of them.
func check(t *testing.T, l [][2]string) {
	t.Helper()
	for _, x := range l {
		if got := told(t, x[0]); got != x[1] {
			t.Errorf("Lex(%.60q): %.200q, want %.200q", x[0], got, x[1])
		}
	}
}

// checkRefused: texts that are refused at a place.
func checkRefused(t *testing.T, want api.Errno, at int, l ...string) {
	t.Helper()
	for _, s := range l {
		if got, bad, e := lex.Lex(s); len(got) != 0 || bad != at || e != want {
			t.Errorf("Lex(%.60q): %v, %d at %d, want %d at %d", s, got, e, bad, want, at)
		}
	}
}

func checkSyntax(t *testing.T, at int, l ...string) {
	t.Helper()
	checkRefused(t, api.ErrSyntax, at, l...)
}

// one: a text of one byte.
func one(c int) string {
	return string([]byte{byte(c)})
}

// P11.1: the chapter's examples.
func TestExamples(t *testing.T) {
	check(t, [][2]string{{"a/b/c", "name:a sign:/ name:b sign:/ name:c"}, {"x~/b/", "name:x sign:~ re:b"}})
	checkSyntax(t, 0, `"ab`)
	l, _, _ := lex.Lex("f(x) /2\n")
	want := []lex.Token{{lex.Func, "f", 0}, {lex.Sign, "(", 1}, {lex.Name, "x", 2}, {lex.Sign, ")", 3}, {lex.Sign, "/", 5}, {lex.Number, "2", 6}, {lex.Newline, "", 7}, {lex.End, "", 8}}
	if !slices.Equal(l, want) {
		t.Errorf("%v, want %v", l, want)
	}
	if kinds := []int{lex.End, lex.Newline, lex.Number, lex.String, lex.Regex, lex.Name, lex.Func, lex.Word, lex.Sign, lex.Builtin, lex.Banned}; !slices.Equal(kinds, []int{0, 1, 2, 3, 4, 5, 6, 7, 8, 9, 10}) {
		t.Errorf("the kinds are %v", kinds)
	}
}

// P11.1: what stands between tokens.
func TestBetween(t *testing.T) {
	check(t, [][2]string{
		{"", ""}, {" ", ""}, {"\t", ""}, {"\r", ""}, {"\\\n", ""}, {" \t\r\\\n\\\n ", ""}, {"#", ""}, {`# a "b /c \`, ""}, {"\\\n#", ""},
		{"\n", "NL"}, {"\n\n", "NL NL"}, {"\r\n", "NL"}, {"\n\r", "NL"}, {"#\n", "NL"}, {"# a\n# b\n", "NL NL"}, {"#a#b\n", "NL"}, {"\n#", "NL"}, {"\\\n\n", "NL"},
		{"a b", "name:a name:b"}, {"a\tb", "name:a name:b"}, {"a\rb", "name:a name:b"}, {"a\\\nb", "name:a name:b"}, {"a\nb", "name:a NL name:b"}, {"a#b", "name:a"}, {"a #b", "name:a"}, {"a#b\nc", "name:a NL name:c"}, {"a#b#c\n\n#d\n", "name:a NL NL NL"},
		// A comment goes on up to the byte 10, whatever stands ahead of that.
		{"a#\\\nb", "name:a NL name:b"}, {"a # \"\n\"b\"", "name:a NL str:b"}, {"#/\n/b/", "NL re:b"}, {"#\x00\x7f\x80\xff\r\nb", "NL name:b"},
		{" a ", "name:a"}, {"\\\na\\\n", "name:a"}, {"1\\\n2", "num:1 num:2"}, {"1 .5", "num:1 num:.5"}, {"+ =", "sign:+ sign:="}, {"+\\\n=", "sign:+ sign:="}, {"BE\\\nGIN", "name:BE name:GIN"},
	})
	// A backslash stands there with a byte 10 behind it alone.
	for c := range 256 {
		if c != '\n' {
			checkSyntax(t, 0, `\`+one(c), `\`+one(c)+"\n")
			checkSyntax(t, 2, `a \`+one(c), "\\\n\\"+one(c), "#\n\\"+one(c))
		}
	}
	checkSyntax(t, 0, `\`)
	checkSyntax(t, 2, "\\\n\\", `a \`, `1.\`, `""\`, "#\n\\")
}

// P11.1: numbers with a full stop ahead, within, behind, and several.
func TestNumbers(t *testing.T) {
	check(t, [][2]string{
		{"0", "num:0"}, {"7", "num:7"}, {"0123456789", "num:0123456789"}, {"1.5", "num:1.5"}, {"1.", "num:1."}, {".5", "num:.5"}, {"00.00", "num:00.00"}, {"007", "num:007"}, {".0", "num:.0"}, {".0123456789", "num:.0123456789"},
		{"1.2.3", "num:1.2 num:.3"}, {"1..2", "num:1. num:.2"}, {".5.5", "num:.5 num:.5"}, {"1.2.3.4", "num:1.2 num:.3 num:.4"}, {"1. .5", "num:1. num:.5"},
		{"1.a", "num:1. name:a"}, {"1a", "num:1 name:a"}, {"1_", "num:1 name:_"}, {"1e5", "num:1 name:e5"}, {"1.e5", "num:1. name:e5"}, {"1e-5", "num:1 name:e sign:- num:5"}, {"0x1f", "num:0 name:x1f"}, {"a1", "name:a1"}, {"a.1", "name:a num:.1"}, {"a1.5", "name:a1 num:.5"}, {"1in", "num:1 word:in"},
		{"-1", "sign:- num:1"}, {"+.5", "sign:+ num:.5"}, {"1-.5", "num:1 sign:- num:.5"}, {"$1", "sign:$ num:1"}, {"$.5", "sign:$ num:.5"}, {"1(", "num:1 sign:("}, {`1"a"`, "num:1 str:a"}, {"1\n2", "num:1 NL num:2"}, {"1,5", "num:1 sign:, num:5"},
	})
	// A full stop alone.
	checkSyntax(t, 0, ".", "..", ".a", ". 5", "..5", ".\n5", ".\\\n5", ".(", "./a/")
	checkSyntax(t, 2, "1..", "1.. 2", "1...5", "a ..5", "1 .", "a .", ".5.", ".5..", ".5.a")
	checkSyntax(t, 3, "1.5.", "1.5..5", ".5 .", "1. .")
}

// P11.1: strings, and where they are told that aren't ended or have a wrong backslash.
func TestStrings(t *testing.T) {
	check(t, [][2]string{
		{`""`, "str:"}, {`"a"`, "str:a"}, {`" a  b "`, "str: a  b "}, {`"""a"`, "str: str:a"}, {`"a""b"`, "str:a str:b"}, {`"#"`, "str:#"}, {`"/"`, "str:/"}, {`"/a/"`, "str:/a/"}, {`"a(b"`, "str:a(b"},
		{`"\n"`, "str:\n"}, {`"\t"`, "str:\t"}, {`"\""`, `str:"`}, {`"\\"`, `str:\`}, {`"\/"`, "str:/"}, {`"a\tb\nc\"d\\e\/f"`, "str:a\tb\nc\"d\\e/f"},
		{`"\\n"`, `str:\n`}, {`"\\\n"`, "str:\\\n"}, {`"\\\\"`, `str:\\`}, {`"\"\""`, `str:""`}, {`"\\""b"`, `str:\ str:b`}, {`"\/\/"`, "str://"},
		{`a"b"c`, "name:a str:b name:c"}, {`print"a"`, "word:print str:a"}, {`f"a"(`, "name:f str:a sign:("}, {`"BEGIN"`, "str:BEGIN"},
	})
	// No second sign ahead of the end, or of a byte 10.
	checkSyntax(t, 0, `"`, `"a`, `"a#b`, `"\"`, `"\\\"`, `"a\"b`, "\"\n\"", "\"a\n", "\"a\nb\"", "\"\\n\n\"", "\"\\\\\n\"", "\"a\r\n\"")
	checkSyntax(t, 1, `a"b`, ` "`, "\n\"b", `("`)
	checkSyntax(t, 2, `"""`, `""@`, `1 "a`)
	// A wrong backslash, if it is met ahead of the end and of a byte 10.
	checkSyntax(t, 1, `"\q"`, `"\`, `"\q`, "\"\\\n\"", "\"\\\r\"", "\"\\q\n\"", `"\q\r"`, `"\N"`, `"\T"`, `"\0"`, `"\'"`, `"\ "`, `"\`+"\xff\"")
	checkSyntax(t, 3, `"ab\`, `"ab\q\"`, `"\n\`, `"\\\a"`, `"a"\`)
	checkSyntax(t, 0, "\"a\n\\q\"", "\"\n\\\"")
}

// P11.1: regexes, and where they are told that aren't ended or have a wrong backslash.
func TestRegexes(t *testing.T) {
	check(t, [][2]string{
		{"//", "re:"}, {"/a/", "re:a"}, {"/ a /", "re: a "}, {"/#/", "re:#"}, {`/"/`, `re:"`}, {`/"a"/`, `re:"a"`}, {"/=/", "re:="}, {"/=a/", "re:=a"}, {"/a(/", "re:a("}, {"/*+?/", "re:*+?"},
		{`/\//`, "re:/"}, {`/a\/b\/c/`, "re:a/b/c"}, {`/[\/]/`, "re:[/]"}, {`/\\/`, `re:\\`}, {`/\\\//`, `re:\\/`}, {`/\\/b`, `re:\\ name:b`}, {`/\n\t\"\./`, `re:\n\t\"\.`}, {`/\\n/`, `re:\\n`}, {`/\\\\/`, `re:\\\\`},
		{"/a//b/", "re:a sign:/ name:b sign:/"}, {"/a/ /b/", "re:a sign:/ name:b sign:/"}, {"/a/\n/b/", "re:a NL re:b"}, {"//\n//", "re: NL re:"}, {"/a/b", "re:a name:b"}, {"/a/(", "re:a sign:("}, {"/a/=", "re:a sign:="}, {"/[/]/", "re:[ sign:] sign:/"},
	})
	checkSyntax(t, 0, "/", "/a", "/=", "/= 2", `/\/`, `/\\\/`, "/\n/", "/a\n", "/a\nb/", "/\\/\n/", "/\\\\\n/")
	checkSyntax(t, 1, "~/", "~/a\n/", "(/a", " /a", "\n/a", "!/", ",/a\\/")
	checkSyntax(t, 1, `/\`, "/\\\n/", "/\\\n")
	checkSyntax(t, 3, `/ab\`, "~/a\\\n/", `/\/\`, `/a/\`, "/ab\\\n/", "/\\\\\\\n/")
	checkSyntax(t, 0, "/a\n\\")
}

// P11.1: each byte in a string, in a regex, in a comment, and behind a backslash.
func TestEachByteWithin(t *testing.T) {
	for c := range 256 {
		b := one(c)
		if b != `"` && b != `\` && b != "\n" {
			check(t, [][2]string{{`"x` + b + `y"`, "str:x" + b + "y"}})
		}
		if b != "/" && b != `\` && b != "\n" {
			check(t, [][2]string{{"/x" + b + "y/", "re:x" + b + "y"}})
		}
		if b != "\n" {
			check(t, [][2]string{{"a#x" + b + "y\nb", "name:a NL name:b"}})
		}
		if strings.Contains(`nt"\/`, b) {
			check(t, [][2]string{{`"x\` + b + `y"`, "str:x" + strings.NewReplacer("n", "\n", "t", "\t").Replace(b) + "y"}})
		} else {
			checkSyntax(t, 2, `"x\`+b+`y"`, `"x\`+b)
		}
		switch b {
		case "\n":
			checkSyntax(t, 2, "/x\\\ny/", "/x\\\n")
		case "/":
			check(t, [][2]string{{`/x\/y/`, "re:x/y"}})
		default:
			check(t, [][2]string{{`/x\` + b + `y/`, `re:x\` + b + "y"}})
		}
	}
}

// checkSlash: behind a text a slash begins a regex, or divides.
func checkSlash(t *testing.T, ahead string, divides bool) {
	t.Helper()
	for _, between := range []string{"", " ", "\t", "\r", "\\\n", " \\\n "} {
		first := told(t, ahead)
		if first != "" {
			first += " "
		}
		s := ahead + between
		if divides {
			check(t, [][2]string{{s + "/a/", first + "sign:/ name:a sign:/"}, {s + "/=a", first + "sign:/= name:a"}, {s + `/"/"/`, first + "sign:/ str:/ sign:/"}})
		} else {
			check(t, [][2]string{{s + "/a/", first + "re:a"}, {s + "/=a/", first + "re:=a"}, {s + `/"/`, first + `re:"`}})
			checkSyntax(t, len(s), s+"/", s+"/=", s+"/a\n/")
		}
		// Behind a byte 10 it begins one, whatever stands ahead of that.
		check(t, [][2]string{{s + "\n/a/", first + "NL re:a"}, {s + "#/\n/a/", first + "NL re:a"}})
	}
}

// P11.1: a slash behind each kind of token and each sign, and at the beginning.
func TestSlash(t *testing.T) {
	for _, ahead := range []string{"1", "1.", ".5", "1.5", `""`, `"a"`, "//", "/a/", "x", "_", "NF", "BEGINx", "xlength", "lengths", "length", "(x)", "length()", "a[1]", "i++", "i--", "$1", "$NF", "/a/ /b", "\nx", " x"} {
		checkSlash(t, ahead, true)
	}
	for _, ahead := range []string{"", " ", "\n", "\\\n", "a\n", "1\n", "f(", "length(", "split (", "a[", "i++ +", "i-- -", "1*", "1 /", "1/=", "a;", "{", "}", "a||", "\"a\",", "!", "-", "length length print"} {
		checkSlash(t, ahead, false)
	}
	for _, word := range strings.Fields(words + " " + banned + " " + builtins) {
		checkSlash(t, word, word == "length")
	}
	for _, sign := range strings.Fields(signs) {
		checkSlash(t, "x "+sign, slices.Contains([]string{")", "]", "++", "--"}, sign))
	}
}

// P11.1: names, and what they are with a ( behind, with a blank between, and with other things.
func TestNames(t *testing.T) {
	check(t, [][2]string{
		{"a", "name:a"}, {"Z", "name:Z"}, {"_", "name:_"}, {"__", "name:__"}, {"abcdefghijklmnopqrstuvwxyz", "name:abcdefghijklmnopqrstuvwxyz"}, {"ABCDEFGHIJKLMNOPQRSTUVWXYZ", "name:ABCDEFGHIJKLMNOPQRSTUVWXYZ"}, {"x0123456789", "name:x0123456789"}, {"_1_a_", "name:_1_a_"}, {"a1b2", "name:a1b2"},
		{"f(", "func:f sign:("}, {"f((", "func:f sign:( sign:("}, {"_1(", "func:_1 sign:("}, {"f1_(", "func:f1_ sign:("}, {"f(g(x))", "func:f sign:( func:g sign:( name:x sign:) sign:)"}, {"1f(", "num:1 func:f sign:("}, {"$f(", "sign:$ func:f sign:("}, {`"a"f(`, "str:a func:f sign:("},
		{"f (", "name:f sign:("}, {"f\t(", "name:f sign:("}, {"f\r(", "name:f sign:("}, {"f\\\n(", "name:f sign:("}, {"f\n(", "name:f NL sign:("}, {"f#(", "name:f"}, {"f#\n(", "name:f NL sign:("}, {"f[(", "name:f sign:[ sign:("}, {"f+(", "name:f sign:+ sign:("}, {"f)", "name:f sign:)"}, {`f"("`, "name:f str:("},
		{"a-b", "name:a sign:- name:b"}, {"a$b", "name:a sign:$ name:b"}, {"a.5b", "name:a num:.5 name:b"},
	})
	checkSyntax(t, 1, "a.b", "a@b", "a'", "a\u00e9b", "a\x80", "a^b", "a`")
}

// P11.1: each word of the lists, with ( behind and without, and names that are like it.
func TestWords(t *testing.T) {
	kinds := map[string]string{}
	for prefix, list := range map[string]string{"word:": words, "builtin:": builtins, "banned:": banned} {
		for _, w := range strings.Fields(list) {
			kinds[w] = prefix + w
		}
	}
	if len(kinds) != 35 {
		t.Fatalf("%d words", len(kinds))
	}
	for w, want := range kinds {
		check(t, [][2]string{{w, want}, {w + "(", want + " sign:("}, {w + " (", want + " sign:("}, {w + "\n" + w, want + " NL " + want}, {"1" + w, "num:1 " + want}, {w + "+", want + " sign:+"}, {w + ".1", want + " num:.1"}, {`"` + w + `"`, "str:" + w}})
		like := []string{"_" + w, "x" + w, w[:len(w)-1], w[1:], strings.ToUpper(w), strings.ToLower(w), strings.ToUpper(w[:1]) + w[1:]}
		for _, c := range "_azAZ059" {
			like = append(like, w+string(c))
		}
		for v := range kinds {
			like = append(like, w+v)
		}
		for _, s := range like {
			if kinds[s] == "" {
				check(t, [][2]string{{s, "name:" + s}, {s + "(", "func:" + s + " sign:("}, {s + " (", "name:" + s + " sign:("}})
			}
		}
	}
}

// P11.1: each sign alone, and the longer ones first where they stand next to one another.
func TestSigns(t *testing.T) {
	list := strings.Fields(signs)
	if len(list) != 37 {
		t.Fatalf("%d signs", len(list))
	}
	for _, s := range list {
		if s == "/" || s == "/=" { // these begin a regex, but behind a value
			check(t, [][2]string{{"1" + s, "num:1 sign:" + s}, {"1" + s + "1", "num:1 sign:" + s + " num:1"}})
			continue
		}
		check(t, [][2]string{{s, "sign:" + s}, {s + "a", "sign:" + s + " name:a"}, {s + " =", "sign:" + s + " sign:="}, {s + "\n=", "sign:" + s + " NL sign:="}, {s + `""`, "sign:" + s + " str:"}})
	}
	for s, want := range map[string]string{
		"+++": "++ +", "++++": "++ ++", "++=": "++ =", "+=+": "+= +", "+-": "+ -", "---": "-- -", "--=": "-- =", "-=-": "-= -", "-+": "- +", "=+=": "= +=", "==": "==", "===": "== =", "====": "== ==", "=>": "= >", "=<": "= <", "=!": "= !", "=~": "= ~", "=-": "= -",
		"!==": "!= =", "!!=": "! !=", "!~~": "!~ ~", "!!~": "! !~", "!~=": "!~ =", "~!~": "~ !~", "~=": "~ =", "~~": "~ ~", "<==": "<= =", "<<": "< <", "<<=": "< <=", "<>": "< >", ">==": ">= =", ">>": ">>", ">>>": ">> >", ">>=": ">> =", ">=>": ">= >", "><": "> <", "> >": "> >",
		"**": "* *", "**=": "* *=", "*==": "*= =", "%%=": "% %=", "%==": "%= =", "&&&&": "&& &&", "||": "||", "|||": "|| |", "||||": "|| ||", "|=": "| =", "| |": "| |", "||=": "|| =", "$$": "$ $", "$++": "$ ++", "?:": "? :", "::": ": :", "{}": "{ }", "()": "( )", "[]": "[ ]", ";;": "; ;", ",,": ", ,", "[(": "[ (", "){": ") {",
		")/": ") /", ")/=": ") /=", ")/==": ") /= =", "]/": "] /", "]/=": "] /=", "++/": "++ /", "--/=": "-- /=", ")/(": ") / (",
	} {
		check(t, [][2]string{{s, "sign:" + strings.ReplaceAll(want, " ", " sign:")}})
	}
}

// P11.1: each byte alone, and behind a name.
func TestEachByte(t *testing.T) {
	for c := range 256 {
		b := one(c)
		want := "none"
		switch {
		case strings.Contains("abcdefghijklmnopqrstuvwxyzABCDEFGHIJKLMNOPQRSTUVWXYZ_", b):
			want = "name:" + b
		case strings.Contains("0123456789", b):
			want = "num:" + b
		case b == "\n":
			want = "NL"
		case strings.Contains(" \t\r#", b):
			want = ""
		case slices.Contains(strings.Fields(signs), b) && b != "/":
			want = "sign:" + b
		}
		if want == "none" {
			checkSyntax(t, 0, b, b+"\x00", b+"@")
			if b != "/" {
				checkSyntax(t, 1, "a"+b, ";"+b)
			}
			continue
		}
		check(t, [][2]string{{b, want}, {b + "\n", strings.TrimPrefix(want+" NL", " ")}, {" " + b, want}})
	}
	checkSyntax(t, 0, "&", "&+", "& &", "^", "@", "'", "`", "\x00", "\x7f", "\x80", "\xff", "\u00e9", "\u00a0", "\ufeffa")
	checkSyntax(t, 2, "&&&", "a & b", "&&&+", "a @", "\n\n@")
}

// P11.1: of several errors the first one from the left is told, and behind a comment's beginning none.
func TestFirstError(t *testing.T) {
	checkSyntax(t, 0, "@@", `@"`, `."`, `"a@`, `/a@`, "\\@\"", "\"a\n@", "/a\n@", "&@", "@"+strings.Repeat("a", 3999))
	checkSyntax(t, 1, "a@\"", "a\"@", `"\q@`, `~/@"`, `/\`, "a.&", "a&.", "1@2@")
	checkSyntax(t, 3, `a +@ "`, `a""`+"\x00", "a~ @/", "a~ /@", `"a"\q`, "/a/@", `"@"."`, "#@\n@")
	checkSyntax(t, 4, "# @\n@", "#\"\n\n\"", `"@" .`, "/@/ &", `"\n"`+"\xff")
	check(t, [][2]string{{"a#@", "name:a"}, {"#\"\n", "NL"}, {`"@&"/b`, "str:@& sign:/ name:b"}, {"/@&/", "re:@&"}})
}

// P11.1: texts of MaxSource bytes, and of more.
func TestBig(t *testing.T) {
	const most = api.MaxSource
	many := func(s string, n int) string { return strings.Repeat(s, n) }
	check(t, [][2]string{
		{many("a", most), "name:" + many("a", most)}, {many("7", most), "num:" + many("7", most)}, {many(" ", most), ""}, {"#" + many("@", most-1), ""}, {many("\\\n", most/2), ""}, {many("a", most-1) + "(", "func:" + many("a", most-1) + " sign:("},
		{many("\n", most), strings.TrimSuffix(many("NL ", most), " ")}, {many("(", most), strings.TrimSuffix(many("sign:( ", most), " ")}, {many("a ", most/2), strings.TrimSuffix(many("name:a ", most/2), " ")}, {many(".1", most/2), strings.TrimSuffix(many("num:.1 ", most/2), " ")},
		{`"` + many("a", most-2) + `"`, "str:" + many("a", most-2)}, {"/" + many("a", most-2) + "/", "re:" + many("a", most-2)}, {`"` + many(`\n`, most/2-1) + `"`, "str:" + many("\n", most/2-1)}, {"/" + many(`\/`, most/2-1) + "/", "re:" + many("/", most/2-1)}, {many(`""`, most/2), strings.TrimSuffix(many("str: ", most/2), " ")},
	})
	checkSyntax(t, most-1, many("a", most-1)+"@", many(" ", most-1)+`"`, many("\n", most-1)+"/", many("(", most-1)+`\`, `"`+many("a", most-2)+`\`)
	checkSyntax(t, 0, `"`+many("a", most-1), "/"+many("a", most-1), many("@", most))
	for _, s := range []string{"a", " ", "\n", "@", `"`, "/", "#", "\\\n", `\`, "(", "\x00", "\xff", "a@", "a \n"} {
		checkRefused(t, api.ErrBig, 0, many(s, most+1), many(s, 1<<20))
	}
	checkRefused(t, api.ErrBig, 0, `"`+many("a", most-1)+`"`, many("a", most)+"@", many("\u00e9", most/2)+"a")
}

// P11.1: Print of each kind, of one below and above them, with a text and without.
func TestPrint(t *testing.T) {
	const least, most = -1 << 63, 1<<63 - 1
	prefixes := []string{"END", "NL", "num:", "str:", "re:", "name:", "func:", "word:", "sign:", "builtin:", "banned:"}
	texts := []string{"", "a", "1.5", " ", "a b\n\x00\xff", "END"}
	var all []lex.Token
	long := ""
	for kind, prefix := range prefixes {
		for _, text := range texts {
			x := lex.Token{Kind: kind, Text: text, At: 7}
			if got := lex.Print([]lex.Token{x}); got != prefix+text+" " {
				t.Errorf("Print(%v): %q", x, got)
			}
			all, long = append(all, x), long+prefix+text+" "
		}
	}
	if got := lex.Print(all); got != long {
		t.Errorf("Print of all: %q, want %q", got, long)
	}
	for _, kind := range []int{-1, -2, -1 << 32, least, least + 1} {
		if got := lex.Print([]lex.Token{{kind, "x", -1}, {1, "", 0}}); got != "ENDx NL " {
			t.Errorf("Print of kind %d: %q", kind, got)
		}
	}
	for _, kind := range []int{10, 11, 12, 1 << 32, most} {
		if got := lex.Print([]lex.Token{{kind, "x", most}, {2, "3", least}}); got != "banned:x num:3 " {
			t.Errorf("Print of kind %d: %q", kind, got)
		}
	}
	if lex.Print(nil) != "" || lex.Print([]lex.Token{}) != "" {
		t.Error("Print of no tokens")
	}
}

// P2: no two answers share memory, nor does one share it with the text (K3, K4).
func TestMemory(t *testing.T) {
	s := strings.Clone("BEGIN {f(x)+=length\nprint \"a\\tb\"~/c\\/d/,1.5,\"\"}")
	l, _, _ := lex.Lex(s)
	again, _, _ := lex.Lex(s)
	if !slices.Equal(l, again) {
		t.Errorf("%v, and again %v", l, again)
	}
	within := func(a, b string) bool {
		x, y := uintptr(unsafe.Pointer(unsafe.StringData(a))), uintptr(unsafe.Pointer(unsafe.StringData(b)))
		return x < y+uintptr(len(b)) && y < x+uintptr(len(a))
	}
	texts := []string{s, lex.Print(l)}
	for _, x := range append(slices.Clone(l), again...) {
		texts = append(texts, x.Text)
	}
	for i, x := range texts {
		for j, y := range texts {
			if i != j && x != "" && y != "" && within(x, y) {
				t.Errorf("texts %d and %d share their bytes: %q, %q", i, j, x, y)
			}
		}
	}
	whole := again[:cap(again)]
	for i := range whole {
		whole[i] = lex.Token{Kind: -1, Text: "spoilt"}
	}
	third, _, _ := lex.Lex(s)
	if !slices.Equal(l, third) {
		t.Error("an answer changed another one")
	}
	before := slices.Clone(l)
	lex.Print(l[:3])
	if !slices.Equal(l, before) {
		t.Error("Print changed its tokens")
	}
}
