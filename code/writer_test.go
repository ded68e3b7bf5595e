package code_test

import (
	"math/rand"
	"strings"
)

// writer writes programs that are right, and mean all kinds of things.
type writer struct {
	*rand.Rand
	values, arrays []string
	function, rule bool
	loops, size    int // the size is how much may be written yet
}

func newWriter(r *rand.Rand) *writer {
	return &writer{Rand: r}
}

func (w *writer) one(l ...string) string {
	return l[w.Intn(len(l))]
}

// program writes one of items in any order. Three functions have names that hide those of all.
func (w *writer) program() string {
	w.size = 20 + w.Intn(150)
	l := []string{
		w.item("function f(v,a,w)", true, false, []string{"v", "w", "x", "NR"}, []string{"a", "m", "n"}, "a[1];"),
		w.item("function g(x,m)", true, false, []string{"x", "y", "FS"}, []string{"m", "n"}, "delete m;"),
		w.item("function h()", true, false, []string{"x", "y", "z"}, []string{"m"}, ""),
	}
	values, arrays := strings.Fields("x y z NR NF FS OFS ORS RSTART RLENGTH FILENAME"), []string{"m", "n"}
	for range 1 + w.Intn(5) {
		head := w.one("BEGIN", "END", "", "when", "always", "default")
		w.values, w.arrays, w.function, w.rule, w.loops = values, arrays, false, false, 0
		switch head {
		case "when":
			head = w.expression(3) + " "
		case "default":
			l = append(l, w.expression(3)+"\n")
			continue
		case "always":
			head = ""
		}
		l = append(l, w.item(head, false, head != "BEGIN" && head != "END", values, arrays, ""))
	}
	w.Shuffle(len(l), func(i, k int) { l[i], l[k] = l[k], l[i] })
	return strings.Join(l, w.one("", "\n", ";"))
}

// item writes one with a block.
func (w *writer) item(head string, function, rule bool, values, arrays []string, first string) string {
	w.values, w.arrays, w.function, w.rule, w.loops = values, arrays, function, rule, 0
	return head + "{" + first + w.statements(3) + "}"
}

func (w *writer) statements(deep int) string {
	var out strings.Builder
	for range w.Intn(4) {
		out.WriteString(w.statement(deep))
	}
	return out.String()
}

// statement writes one, with what ends it.
func (w *writer) statement(deep int) string {
	if w.size--; w.size < 0 || deep == 0 || w.Intn(2) == 0 {
		return w.simple(w.Intn(2) == 0) + w.one(";", "\n")
	}
	switch w.Intn(6) {
	case 0:
		return "{" + w.statements(deep-1) + "}"
	case 1:
		return "if(" + w.expression(3) + ")" + w.body(deep)
	case 2:
		return "if(" + w.expression(3) + ")" + w.body(deep) + w.one("", "\n") + "else " + w.body(deep)
	}
	w.loops++
	head := ""
	switch w.Intn(3) {
	case 0:
		head = "while(" + w.expression(3) + ")"
	case 1:
		head = "for(" + w.one("", w.simple(false)) + ";" + w.one("", w.expression(3)) + ";" + w.one("", w.simple(false)) + ")"
	case 2:
		head = "for(" + w.one(w.values...) + " in " + w.one(w.arrays...) + ")"
	}
	head += w.body(deep)
	w.loops--
	return head
}

func (w *writer) body(deep int) string {
	if w.Intn(8) == 0 {
		return ";"
	}
	return w.statement(deep - 1)
}

// simple writes a statement that may stand in the brackets of a for, if its lists have none.
func (w *writer) simple(brackets bool) string {
	switch w.Intn(14) {
	case 0:
		if w.loops > 0 {
			return w.one("break", "continue")
		}
	case 1:
		if w.rule {
			return "next"
		}
	case 2:
		if w.function {
			return "return" + w.one("", " "+w.expression(2))
		}
	case 3:
		if w.Intn(3) == 0 {
			return "exit" + w.one("", " "+w.expression(2))
		}
	case 4:
		return "delete " + w.one(w.arrays...) + w.one("", "["+w.expression(2)+"]")
	case 5, 6:
		l := " " + w.list()
		if brackets {
			l = "(" + l + ")"
		}
		return "print" + w.one("", l, l) + w.target()
	case 7:
		l := " " + w.list()
		if brackets {
			l = "(" + l + ")"
		}
		return "printf" + l + w.target()
	}
	return w.expression(3)
}

func (w *writer) target() string {
	if w.Intn(2) == 0 {
		return ""
	}
	return w.one(">", ">>") + w.expression(2)
}

// list writes expressions with commas between.
func (w *writer) list() string {
	var l []string
	for range 1 + w.Intn(3) {
		l = append(l, w.expression(2))
	}
	return strings.Join(l, ",")
}

// place writes what a value may be laid in.
func (w *writer) place(deep int) string {
	switch w.Intn(5) {
	case 0, 1:
		return w.one(w.arrays...) + "[" + w.expression(deep-1) + "]"
	case 2:
		if w.Intn(2) == 0 {
			return "$" + w.one("0", "1", "x", "(x)", "$1", "++y")
		}
		return "$(" + w.expression(deep-1) + ")"
	}
	return w.one(w.values...)
}

func (w *writer) pattern(deep int) string {
	if w.Intn(2) == 0 {
		return w.one("/a+/", "/\\//", "//")
	}
	return w.expression(deep)
}

// expression writes one in brackets, or one that needs none.
func (w *writer) expression(deep int) string {
	if w.size--; w.size < 0 || deep <= 0 || w.Intn(4) == 0 {
		return w.one("0", "1", "2.50", ".5", "1.0000009", `""`, `"a"`, `"\n\""`, "(/a+/)", "(length)", "(length())", w.one(w.values...), w.one(w.values...), w.one(w.values...), "$1", "$x", w.one(w.arrays...)+"[1]")
	}
	if w.Intn(6) == 0 {
		return w.place(deep)
	}
	deep--
	a := w.expression(deep)
	switch w.Intn(12) {
	case 0, 1:
		return "(" + a + " " + w.one("+", "-", "*", "/", "%", "", "<", "<=", "==", "!=", ">", ">=") + " " + w.expression(deep) + ")"
	case 2:
		return "(" + a + w.one("&&", "||") + w.expression(deep) + ")"
	case 3:
		return "(" + a + w.one("~", "!~") + w.pattern(deep) + ")"
	case 4:
		return "(" + a + "?" + w.expression(deep) + ":" + w.expression(deep) + ")"
	case 5:
		return "(" + w.one("!", "-", "+") + a + ")"
	case 6:
		return "(" + a + " in " + w.one(w.arrays...) + ")"
	case 7:
		return "(" + w.place(deep) + w.one("=", "+=", "-=", "*=", "/=", "%=") + a + ")"
	case 8:
		return "(" + w.one("++", "--") + w.place(deep) + ")"
	case 9:
		return "(" + w.place(deep) + w.one("++", "--") + ")"
	case 10:
		array := w.one(w.arrays...)
		return w.one("f()", "f("+a+")", "f("+a+","+array+")", "f("+a+","+array+","+w.expression(deep)+")", "g("+a+")", "g("+a+","+array+")", "h()")
	}
	return w.builtin(deep, a)
}

// builtin writes a function of the language.
func (w *writer) builtin(deep int, a string) string {
	switch w.Intn(7) {
	case 0:
		return w.one("length", "tolower", "toupper", "int", "srand") + "(" + a + ")"
	case 1:
		return w.one("rand()", "index("+a+","+w.expression(deep)+")", "sprintf("+a+")", "sprintf("+a+","+w.expression(deep)+")")
	case 2:
		return "substr(" + a + "," + w.expression(deep) + w.one("", ","+w.expression(deep)) + ")"
	case 3:
		return "split(" + a + "," + w.one(w.arrays...) + w.one("", ","+w.pattern(deep)) + ")"
	case 4:
		return "match(" + a + "," + w.pattern(deep) + ")"
	}
	return w.one("sub", "gsub") + "(" + w.pattern(deep) + "," + a + w.one("", ","+w.place(deep)) + ")"
}
