package code

import "strings"

// special: the language's own variables, the first ones of all.
var special = [8]string{"NR", "NF", "FS", "OFS", "ORS", "FILENAME", "RSTART", "RLENGTH"}

// maxValues is how many values sprintf, print and printf take at most.
const maxValues = 5000

// function is one of the language: its name, and how many values it takes.
type function struct {
	name        string
	least, most int
}

// functions: those of the language, by number.
var functions = [11]function{
	{"length", 1, 1},
	{"substr", 2, 3},
	{"index", 2, 2},
	{"split", 2, 4},
	{"match", 2, 2},
	{"tolower", 1, 1},
	{"toupper", 1, 1},
	{"int", 1, 1},
	{"sprintf", 1, maxValues},
	{"rand", 0, 0},
	{"srand", 1, 1},
}

// split is the number of the one that takes an array.
const split = 3

// splitByPattern stands for the three things that split takes, if its pattern stood between slashes.
const splitByPattern = 4

// Name: that of a function of the language; empty: there is none.
func Name(n int) string {
	if !within(n, len(functions)) {
		return ""
	}
	return strings.Clone(functions[n].name)
}

// numberOf: that of a function of the language that there is.
func numberOf(name string) int {
	n := 0
	for functions[n].name != name {
		n++
	}
	return n
}

// The ways to lay something, beside those that assign's sign says.
const (
	plain   = 0
	preInc  = 6
	preDec  = 7
	postInc = 8
	postDec = 9
	ways    = 10
)

// wayOf: how a sign of assign lays.
func wayOf(sign string) int {
	switch sign {
	case "+=":
		return 1
	case "-=":
		return 2
	case "*=":
		return 3
	case "/=":
		return 4
	case "%=":
		return 5
	}
	return plain
}

// takesValue: does it take a value to lay something in this way? Else one more or one less than what is there is laid.
func takesValue(way int) bool {
	return way < preInc
}

// binaries: how many ways there are to make one value of two.
const binaries = 12

// binaryOf: in which way a node makes one value of two.
func binaryOf(op string) int {
	for i, name := range [binaries]string{"add", "sub", "mul", "div", "mod", "cat", "less", "lesseq", "equal", "notequal", "greater", "greatereq"} {
		if name == op {
			return i
		}
	}
	return -1
}

// unaries: how many ways there are to make another value of one.
const unaries = 3

// unaryOf: in which way a node makes another value of one.
func unaryOf(op string) int {
	switch op {
	case "not":
		return 0
	case "neg":
		return 1
	}
	return 2
}

// within: is a number one of the first few ones, from 0 on?
func within(n, size int) bool {
	return 0 <= n && n < size
}
