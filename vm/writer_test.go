package vm_test

import (
	"math/rand"
	"strconv"
	"strings"
)

// writer writes programs that end, mostly: loops have a count, calls within one another a depth.
type writer struct {
	*rand.Rand
	values, arrays []string
	function, rule bool
	inner          bool // in a loop
	size, count    int  // how much may be written yet; how many loops there are
}

func (w *writer) one(l ...string) string {
	return l[w.Intn(len(l))]
}

// written: a program of items in any order, with two functions.
func written(r *rand.Rand) string {
	w := &writer{Rand: r}
	l := []string{
		w.item("function f(n,v,a,w,b)", "if(n<1)return "+w.one("v", "1", "n", "w", "a[1]", "\"z\"")+";b[v];a[n];", true, false, []string{"n", "v", "w", "x", "NR"}, []string{"a", "b", "m"}),
		w.item("function g(a,x)", w.one("", "a[x];", "delete a;", "a[1]++;"), true, false, []string{"x", "y", "OFS"}, []string{"a", "m"}),
	}
	if !strings.Contains(l[1], "a[") && !strings.Contains(l[1], "delete a") {
		l[1] = "function g(a,x){a[x];return x}"
	}
	values, arrays := strings.Fields("x y z x y z NR NF FS OFS ORS RSTART RLENGTH FILENAME"), []string{"m", "l"}
	for range 1 + w.Intn(4) {
		head := w.one("BEGIN", "END", "", "", w.one("NR%2", "$1", "/a/", "x++<2", "NF>1"))
		rule := head != "BEGIN" && head != "END"
		l = append(l, w.item(head, "", false, rule, values, arrays))
	}
	if w.Intn(3) == 0 {
		l = append(l, w.one("/b/", "$2>1", "x=$1", "!x++", "NR==2")+"\n")
	}
	w.Shuffle(len(l), func(i, k int) { l[i], l[k] = l[k], l[i] })
	return strings.Join(l, "\n")
}

// item writes one with a block. Its names are those that it may use.
func (w *writer) item(head, first string, function, rule bool, values, arrays []string) string {
	w.values, w.arrays, w.function, w.rule, w.inner, w.size = values, arrays, function, rule, false, 12
	return head + "{" + first + w.statements(3) + w.simple() + "}"
}

func (w *writer) statements(deep int) string {
	var out strings.Builder
	for range 1 + w.Intn(4) {
		out.WriteString(w.statement(deep))
	}
	return out.String()
}

// statement writes one, with what ends it.
func (w *writer) statement(deep int) string {
	w.size--
	if deep == 0 || w.size < 0 || w.Intn(5) < 3 {
		return w.simple() + w.one(";", "\n")
	}
	switch w.Intn(3) {
	case 0:
		return "{" + w.statements(deep-1) + "}"
	case 1:
		s := "if(" + w.expression(2) + "){" + w.statements(deep-1) + "}"
		if w.Intn(2) == 0 {
			s += "else{" + w.statements(deep-1) + "}"
		}
		return s
	}
	was := w.inner
	w.inner = true
	w.count++
	q := "q" + strconv.Itoa(w.count)
	s := w.one("while("+q+"++<3)", "for("+q+"=0;"+q+"<2;"+q+"++)", "for("+w.one(w.values...)+" in "+w.one(w.arrays...)+")") + "{" + w.statements(deep-1) + "}"
	w.inner = was
	return s
}

// simple writes a statement without blocks.
func (w *writer) simple() string {
	switch w.Intn(16) {
	case 0:
		if w.inner {
			return w.one("break", "continue")
		}
	case 1:
		if w.rule && w.Intn(2) == 0 {
			return "next"
		}
	case 2:
		if w.function && w.Intn(2) == 0 {
			return "return" + w.one("", " "+w.expression(2))
		}
	case 3:
		if w.Intn(8) == 0 {
			return "exit" + w.one("", " "+w.expression(1))
		}
	case 4:
		return "delete " + w.one(w.arrays...) + w.one("", "["+w.expression(1)+"]", "["+w.expression(1)+"]")
	case 5, 6, 7, 8:
		return w.one("print", "print "+w.list(), "print "+w.list(), "printf "+w.one(`"%s|"`, `"%d %s,"`, `"%5.1f%x"`, w.expression(0))+","+w.list()) + w.target()
	}
	return w.expression(3)
}

func (w *writer) target() string {
	return w.one("", "", "", ` > "o"`, ` >> "p"`, ` > ("o" NR)`, ` > "stdout"`, ` > $1`)
}

func (w *writer) list() string {
	l := []string{w.expression(2)}
	for range w.Intn(3) {
		l = append(l, w.expression(2))
	}
	return strings.Join(l, ",")
}

// place writes what a value may be laid in.
func (w *writer) place(deep int) string {
	switch w.Intn(6) {
	case 0, 1:
		return w.one(w.arrays...) + "[" + w.expression(deep-1) + "]"
	case 2, 3:
		return w.one("$0", "$1", "$2", "$NF", "$(NF+1)", "$3")
	}
	return w.one(w.values...)
}

func (w *writer) pattern(deep int) string {
	return w.one("/a+/", "/[0-9]+/", "/b*/", "/^./", "//", `"a|b"`, `"[.]"`, w.expression(deep))
}

// expression writes one in brackets, or one that needs none.
func (w *writer) expression(deep int) string {
	w.size--
	if deep <= 0 || w.size < -20 || w.Intn(4) == 0 {
		return w.one("0", "1", "2", "3.25", ".5", `""`, `"a"`, `"3b"`, `" 1 "`, `"x&y"`, "(/a/)", "(length)", "$0", "$1", "$2", "$NF", w.one(w.values...), w.one(w.values...), w.one(w.arrays...)+"[1]")
	}
	deep--
	a := w.expression(deep)
	switch w.Intn(16) {
	case 0, 1:
		return "(" + a + w.one("+", "-", "*", " ", " ", " ") + w.expression(deep) + ")"
	case 2:
		return "(" + a + w.one("/", "%") + w.one("2", "3", "(NF+1)", w.expression(deep)) + ")"
	case 3:
		return "(" + a + w.one("<", "<=", "==", "!=", ">", ">=", "&&", "||") + w.expression(deep) + ")"
	case 4:
		return "(" + a + w.one("~", "!~") + w.pattern(deep) + ")"
	case 5:
		return "(" + a + "?" + w.expression(deep) + ":" + w.expression(deep) + ")"
	case 6:
		return "(" + w.one("!", "- ", "+ ") + a + ")"
	case 7:
		return "(" + a + " in " + w.one(w.arrays...) + ")"
	case 8, 9:
		return "(" + w.place(deep) + w.one("=", "=", "+=", "-=", "*=", "/=", "%=") + a + ")"
	case 10:
		return "(" + w.one("++", "--") + w.place(deep) + ")"
	case 11:
		return "(" + w.place(deep) + w.one("++", "--") + ")"
	case 12:
		array := w.one(w.arrays...)
		if w.function {
			return w.one("f(n-1,"+a+")", "f(n-1,"+a+","+array+")")
		}
		return w.one("f("+w.one("0", "1", "2")+","+a+","+array+")", "f(1,"+a+")", "f()", "g("+array+","+a+")", "g("+array+")")
	}
	return w.builtin(deep, a)
}

// builtin writes a function of the language.
func (w *writer) builtin(deep int, a string) string {
	switch w.Intn(8) {
	case 0:
		return w.one("length", "tolower", "toupper", "int", "srand") + "(" + a + ")"
	case 1:
		return w.one("rand()", "index("+a+","+w.expression(deep)+")", "sprintf(\"%s\","+a+")", "sprintf(\"%d-%s\","+a+","+w.expression(deep)+")")
	case 2:
		return "substr(" + a + "," + w.one("1", "2", "0", w.expression(deep)) + w.one("", ","+w.expression(deep)) + ")"
	case 3, 4:
		return "split(" + a + "," + w.one(w.arrays...) + w.one("", ","+w.pattern(deep)) + ")"
	case 5:
		return "match(" + a + "," + w.pattern(deep) + ")"
	}
	return w.one("sub", "gsub") + "(" + w.pattern(deep) + "," + w.one(a, `"<&>"`, `"\\&"`, `""`) + w.one("", ","+w.place(deep)) + ")"
}

// writtenInput: a few inputs of a few lines.
func writtenInput(r *rand.Rand) []string {
	var l []string
	for range r.Intn(4) {
		s := ""
		for range r.Intn(4) {
			for range r.Intn(4) {
				s += []string{"a", "b", "1", "2.50", "10", "ab", "-1", "a1b2", "x,y", ""}[r.Intn(10)] + []string{" ", " ", "  ", ",", "\t"}[r.Intn(5)]
			}
			s += "\n"
		}
		if r.Intn(3) == 0 {
			s = strings.TrimSuffix(s, "\n")
		}
		l = append(l, s)
	}
	return l
}
