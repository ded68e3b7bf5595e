package lex

import (
	"strings"
)

// blankSize: how many bytes a text begins with that stand between tokens.
func blankSize(s string) int {
	n := 0
	for n < len(s) {
		switch c := s[n]; {
		case c == ' ' || c == '\t' || c == '\r':
			n++
		case c == '\\' && strings.HasPrefix(s[n+1:], "\n"):
			n += 2
		case c == '#':
			n += commentSize(s[n:])
		default:
			return n
		}
	}
	return n
}

// commentSize: how many bytes a comment has that a text begins with. The byte 10 behind it is a token.
func commentSize(s string) int {
	if n := strings.IndexByte(s, '\n'); n >= 0 {
		return n
	}
	return len(s)
}

// numberSize: how many bytes the number has that a text begins with, 0 without one.
func numberSize(s string) int {
	whole := digitsSize(s)
	if !strings.HasPrefix(s[whole:], ".") {
		return whole
	}
	places := digitsSize(s[whole+1:])
	if whole+places == 0 {
		return 0
	}
	return whole + 1 + places
}

func digitsSize(s string) int {
	n := 0
	for n < len(s) && isDigit(s[n]) {
		n++
	}
	return n
}

// nameSize: how many letters and digits a text begins with.
func nameSize(s string) int {
	n := 0
	for n < len(s) && (isLetter(s[n]) || isDigit(s[n])) {
		n++
	}
	return n
}

// nameKind: what a name is, by itself or by what stands behind it.
func nameKind(name, behind string) int {
	switch name {
	case "BEGIN", "END", "function", "if", "else", "while", "for", "in", "break", "continue", "next", "exit", "return", "delete", "print", "printf":
		return Word
	case "length", "substr", "index", "split", "sub", "gsub", "match", "tolower", "toupper", "int", "sprintf", "rand", "srand":
		return Builtin
	case "getline", "system", "close", "fflush", "systime", "strftime":
		return Banned
	}
	if strings.HasPrefix(behind, "(") {
		return Func
	}
	return Name
}

// signSize: how many bytes the sign has that a text begins with, 0 without one.
func signSize(s string) int {
	switch s[:min(len(s), 2)] {
	case "+=", "-=", "*=", "/=", "%=", "==", "<=", ">=", "!=", "++", "--", "&&", "||", ">>", "!~":
		return 2
	}
	if s != "" && strings.IndexByte("{}()[];,+-*/%!><|?:~$=", s[0]) >= 0 {
		return 1
	}
	return 0
}

// stringEscape: what a backslash in a String stands for, with a text behind it.
func stringEscape(behind string) string {
	if behind == "" {
		return ""
	}
	switch behind[0] {
	case 'n':
		return "\n"
	case 't':
		return "\t"
	case '"', '\\', '/':
		return behind[:1]
	}
	return ""
}

// regexEscape: what a backslash in a Regex stands for, with a text behind it. What it means is for the pattern to say, but a slash is one.
func regexEscape(behind string) string {
	switch {
	case behind == "" || behind[0] == '\n':
		return ""
	case behind[0] == '/':
		return "/"
	}
	return `\` + behind[:1]
}

func isLetter(c byte) bool {
	return 'a' <= c && c <= 'z' || 'A' <= c && c <= 'Z' || c == '_'
}

func isDigit(c byte) bool {
	return '0' <= c && c <= '9'
}
