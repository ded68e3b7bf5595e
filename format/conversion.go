package format

import (
	"strings"

	"scribe/api"
)

// kinds are the signs that a conversion may end with.
const kinds = "dixfsc%"

// conversion is what stands between a percent sign and one of the kinds, and that one.
type conversion struct {
	left, noughts, plus, blank bool // the flags - 0 + and blank
	width                      int
	precision                  int
	precise                    bool // is a precision told?
	kind                       byte
}

// readConversion: the one that a text begins with, its percent sign taken already, and the text behind it.
func readConversion(s string) (conversion, string, api.Errno) {
	var c conversion
	s = c.readFlags(s)
	c.width, s = readNumber(s)
	if strings.HasPrefix(s, ".") {
		c.precise = true
		c.precision, s = readNumber(s[1:])
	}
	switch {
	case c.width > MaxWidth || c.precision > MaxWidth:
		return conversion{}, "", api.ErrBig
	case s == "" || strings.IndexByte(kinds, s[0]) < 0:
		return conversion{}, "", api.ErrRun
	}
	c.kind = s[0]
	return c, s[1:], api.OK
}

// readFlags takes those that a text begins with, and answers the text behind them.
func (c *conversion) readFlags(s string) string {
	n := 0
flags:
	for ; n < len(s); n++ {
		switch s[n] {
		case '-':
			c.left = true
		case '0':
			c.noughts = true
		case '+':
			c.plus = true
		case ' ':
			c.blank = true
		default:
			break flags
		}
	}
	return s[n:]
}

// readNumber: what the digits say that a text begins with, 0 without any, and the text behind them.
func readNumber(s string) (int, string) {
	n, at := 0, 0
	for at < len(s) && '0' <= s[at] && s[at] <= '9' {
		// However many digits there are, all above MaxWidth is alike.
		n = min(n*10+int(s[at]-'0'), MaxWidth+1)
		at++
	}
	return n, s[at:]
}
