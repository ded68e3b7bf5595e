package parse_test

import (
	"fmt"
	"slices"
	"strings"
	"testing"
)

// takes: each function of the language, the least arguments and the most.
var takes = []struct {
	name        string
	least, most int
}{
	{"length", 0, 1}, {"substr", 2, 3}, {"index", 2, 2}, {"match", 2, 2}, {"split", 2, 3}, {"sub", 2, 3}, {"gsub", 2, 3}, {"tolower", 1, 1}, {"toupper", 1, 1}, {"int", 1, 1}, {"sprintf", 1, 99}, {"rand", 0, 0}, {"srand", 1, 1},
}

const bannedWords = "getline system close fflush systime strftime"

// list: the arguments a, b and so on, as they are written and as their trees are.
func list(n int) (string, string) {
	var texts, trees []string
	for i := range n {
		texts = append(texts, fmt.Sprintf("v%d", i))
		trees = append(trees, fmt.Sprintf("var:v%d", i))
	}
	return strings.Join(texts, ","), strings.Join(trees, " ")
}

// builtin: the tree that a function of the language with these arguments has.
func builtin(name, trees string, n int) string {
	switch {
	case name == "split":
		trees = strings.Replace(trees, "var:v1", "name:v1", 1)
	case strings.HasSuffix(name, "sub") && n == 2:
		trees += " field(num:0)"
	}
	if trees == "" {
		return "builtin:" + name
	}
	return "builtin:" + name + "(" + trees + ")"
}

// P13.1: each function of the language with each number of arguments from none to more than it takes.
func TestHowManyArguments(t *testing.T) {
	for _, x := range takes {
		for n := range 6 {
			texts, trees := list(n)
			s := x.name + "(" + texts + ")"
			if x.least <= n && n <= x.most {
				checkExpressions(t, [][2]string{{s, builtin(x.name, trees, n)}, {x.name + " (\n" + strings.ReplaceAll(texts, ",", ",\n\n") + "\n)", builtin(x.name, trees, n)}})
				continue
			}
			want := syntax
			if x.name == "srand" && n == 0 {
				want = banned
			}
			want(t, "{@"+s+"}", "{a = @"+s+" + 1}", "{f(@"+s+", )}", "@"+s, "{@"+s, "{@"+s+" )}", "{@"+s+" | a}", "{@"+s+";getline}", "{print a > @"+s+"}", "{++@"+s+"}", "{(@"+s+"]}")
		}
		if x.name == "length" {
			continue
		}
		syntax(t, "{"+x.name+"@}", "{"+x.name+"@;a}", "{"+x.name+" @a}", "{"+x.name+" @1}", "{"+x.name+"@\n(a)}", "{"+x.name+"@=1}", "{"+x.name+"@[1]}", "{("+x.name+"@)}", "{"+x.name+"@", "{"+x.name+" @$1}", "{a "+x.name+"@}")
		banned(t, "{"+x.name+"@|}", "{"+x.name+" @close}", "{"+x.name+"(@|)}", "{"+x.name+"(a,@close)}", "{"+x.name+"(a @|)}")
	}
	for _, x := range takes {
		syntax(t, "{"+x.name+"(@,)}", "{"+x.name+"(a,@)}", "{"+x.name+"(a@;b)}", "{"+x.name+"(a@", "{"+x.name+"(a\n@,b)}", "{"+x.name+"(a,@,b)}", "{"+x.name+"(a@]}", "{"+x.name+"(@", "{"+x.name+"(a,b,c,d,e@}", "{"+x.name+"(a,b,c,d,e=@}")
	}
	checkExpressions(t, [][2]string{{"sprintf(a,b,c,d,e,f,g,h,i,j,k)", "builtin:sprintf(var:a var:b var:c var:d var:e var:f var:g var:h var:i var:j var:k)"}, {"length(length)", "builtin:length(builtin:length)"}, {"length(length(length()))", "builtin:length(builtin:length(builtin:length))"}, {"srand(rand())", "builtin:srand(builtin:rand)"}})
}

// P13.1: the second argument of split is a var, the third one of sub and gsub a place.
func TestWhichArguments(t *testing.T) {
	for _, x := range primaries {
		if name, ok := strings.CutPrefix(x[1], "var:"); ok {
			tree := "builtin:split(var:a name:" + name
			checkExpressions(t, [][2]string{{"split(a," + x[0] + ")", tree + ")"}, {"split(a,\n(" + x[0] + "))", tree + ")"}, {"split(a, " + x[0] + ",b)", tree + " var:b)"}})
		} else {
			syntax(t, "{@split(a,"+x[0]+")}", "{@split(a,"+x[0]+",b)}", "{f(@split(a,("+x[0]+")),)}")
		}
		for _, name := range []string{"sub", "gsub"} {
			s := name + "(a,b," + x[0] + ")"
			if slices.Contains(places, x) {
				checkExpressions(t, [][2]string{{s, "builtin:" + name + "(var:a var:b " + x[1] + ")"}})
			} else {
				syntax(t, "{@"+s+"}", "{@"+s+";(}")
			}
			// The others may be anything.
			checkExpressions(t, [][2]string{{name + "(" + x[0] + "," + x[0] + ")", "builtin:" + name + "(" + x[1] + " " + x[1] + " field(num:0))"}})
		}
		checkExpressions(t, [][2]string{{"split(" + x[0] + ",a," + x[0] + ")", "builtin:split(" + x[1] + " name:a " + x[1] + ")"}})
	}
	for _, s := range []string{"a++", "--a", "-a", "!a", "a b", "a=b", "a?b:c", "a in b", "/a/", "a~b", "length", "a||b", "a<b", "a+b"} {
		syntax(t, "{@split(a,"+s+")}", "{@split(a,"+s+",b)}", "{@sub(a,b,"+s+")}", "{@gsub(a,b,"+s+")}")
	}
	// Where the number is wrong, too, and where within a list there is a wrong one.
	syntax(t, "{@split(a)}", "{@split()}", "{@split(1,2,3,4)}", "{@sub(a,b,1,c)}", "{@sub(a,b,c,d)}", "{length(@substr(a),b)}", "{length(@substr(a),}", "{sub(a,@index(b))}", "{substr(@int(),)}", "{@int(a,b)int()}", "{split(a,1@;}", "{split(a,1@", "{index(@index(index(a,b)),c)}", "{substr(a,@")
	banned(t, "{int(@srand(),)}", "{srand(@srand())}", "{rand(@srand())}", "{@srand();int()}", "{f(@srand(\n))}")
}

// P13.1: each Banned word, and the Sign |, is told wherever it stands, if nothing ahead of it is wrong.
func TestBannedWords(t *testing.T) {
	around := []string{"@%", "{@%}", "{a @%}", "{a;@%}", "{a=@%}", "{a @% b}", "a @%", "a{}@%", "BEGIN @%", "END @%", "BEGIN{}@%", "function @%", "function f @%", "function f(@%", "function f(a @%", "function f(a,@%", "function f() @%", "{(@%", "{(a @%", "{a[@%", "{a[1 @%", "{f(@%", "{f(a @%", "{f(a,@%", "{-@%", "{! @%", "{$@%", "{++@%", "{++1 @%", "{a++ @%", "{a? @%", "{a?b @%", "{a?b:@%", "{a in @%", "{a in b @%", "{a< @%", "{a<b @%", "{a&& @%", "{a~ @%", "{a+ @%", "{a* @%", "{1 @%", "{length @%", "{length(@%", "{int @%", "{int(a @%", "{if @%", "{if(@%", "{if(a @%", "{if(a) @%", "{if(a)b;@%", "{if(a)b;else @%", "{if(a)b @%", "{while @%", "{while(@%", "{while(a) @%", "{for @%", "{for(@%", "{for(a @%", "{for(a;@%", "{for(a;b @%", "{for(a;b;@%", "{for(a;b;c @%", "{for(a;b;c) @%", "{for(k in @%", "{for(k in m @%", "{for(k in m\n@%", "{for(k in m) @%", "{break @%", "{next @%", "{exit @%", "{exit 1 @%", "{return @%", "{delete @%", "{delete a @%", "{delete a[@%", "{delete a[1] @%", "{print @%", "{print a @%", "{print a,@%", "{print(@%", "{print(a) @%", "{print > @%", "{print >a @%", "{printf @%", "{printf >a @%", "{printf()>a @%", "{{@%", "{{}@%", "{;@%", "{\n@%", "a;@%", "a\n@%", "a ~ /x/ @%", "{a/b/ @%"}
	for _, word := range append(strings.Fields(bannedWords), "|") {
		for _, s := range around {
			s = strings.ReplaceAll(s, "%", word)
			banned(t, s, s+"()", s+" a", s+"}", s+")", s+" }{ "+word)
			syntax(t, "@}"+strings.Replace(s, "@", "", 1), "{@)"+strings.Replace(s, "@", "", 1))
		}
	}
	// In a String, a Regex or a comment they are no tokens, nor as parts of a name.
	checkItems(t, [][2]string{{"\"getline |\" # system |", "rule(str:getline | default)"}, {"/close|x/", "rule(re:close|x default)"}, {"getlines{closed}", "rule(var:getlines block(expr(var:closed)))"}, {"Close||_system", "rule(or(var:Close var:_system) default)"}})
}
