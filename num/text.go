package num

import (
	"strconv"
	"strings"
)

// blanks may stand around a number.
const blanks = " \t\n"

// places is how many digits One has behind its first.
const places = 6

// Text: as few digits as say it.
func (a Num) Text() string {
	n, one := size(a), uint64(One)
	whole := strconv.FormatUint(n/one, 10)
	// The one ahead of the places keeps the noughts that they begin with.
	behind := strconv.FormatUint(one+n%one, 10)[1:]
	t := strings.TrimRight(whole+"."+behind, "0")
	t = strings.TrimSuffix(t, ".")
	if a < 0 {
		return "-" + t
	}
	return t
}

// Prefix: the number at the beginning of a text, and how many bytes it has.
func Prefix(s string) (Num, int) {
	rest := strings.TrimLeft(s, blanks)
	below := strings.HasPrefix(rest, "-")
	if below || strings.HasPrefix(rest, "+") {
		rest = rest[1:]
	}
	whole, rest := cutDigits(rest)
	behind := ""
	if strings.HasPrefix(rest, ".") {
		behind, rest = cutDigits(rest[1:])
	}
	if whole == "" && behind == "" {
		return 0, 0
	}
	return signed(below, millionths(whole, behind)), len(s) - len(rest)
}

// Looks: is all of a text a number, but for blanks around it?
func Looks(s string) (Num, bool) {
	n, end := Prefix(s)
	return n, end > 0 && strings.Trim(s[end:], blanks) == ""
}

// cutDigits: the digits that a text begins with, and the bytes behind them.
func cutDigits(s string) (string, string) {
	n := 0
	for n < len(s) && '0' <= s[n] && s[n] <= '9' {
		n++
	}
	return s[:n], s[n:]
}

// millionths: so many of them do the digits ahead of a full stop and behind it say; at most Most.
func millionths(whole, behind string) uint64 {
	n := uint64(0)
	for i := range len(whole) {
		n = grow(n, whole[i])
	}
	for i := range places {
		if i < len(behind) {
			n = grow(n, behind[i])
		} else {
			n = grow(n, '0')
		}
	}
	return n
}

// grow: n with a digit behind its own; at most Most.
func grow(n uint64, digit byte) uint64 {
	d, most := uint64(digit-'0'), uint64(Most)
	if n > (most-d)/10 {
		return most
	}
	return n*10 + d
}
