package format

import (
	"strconv"
	"strings"

	"scribe/cell"
	"scribe/num"
)

// allPlaces is how many places f prints, if no precision is told: as many as a number has.
const allPlaces = 6

// print: a value by a conversion of a value.
func (c conversion) print(v cell.Cell) string {
	switch c.kind {
	case 's':
		return c.fill("", c.text(v))
	case 'c':
		return c.fill("", char(v))
	case 'f':
		n := v.Num()
		return c.fill(c.sign(n < 0), c.places(n))
	}
	n := v.Num().Whole()
	return c.fill(c.sign(n < 0), c.digits(n))
}

// fill: as many bytes as the width asks for, at least.
func (c conversion) fill(sign, body string) string {
	missing := max(c.width-len(sign)-len(body), 0)
	switch {
	case c.left:
		return sign + body + strings.Repeat(" ", missing)
	case c.noughts && c.takesNoughts():
		return sign + strings.Repeat("0", missing) + body
	}
	return strings.Repeat(" ", missing) + sign + body
}

// takesNoughts: may they stand in the place of blanks?
func (c conversion) takesNoughts() bool {
	switch c.kind {
	case 's', 'c':
		return false
	case 'f':
		return true
	}
	// A precision has said how many noughts there are.
	return !c.precise
}

// sign: what stands ahead of a number's digits.
func (c conversion) sign(below bool) string {
	switch {
	case below:
		return "-"
	case c.plus:
		return "+"
	case c.blank:
		return " "
	}
	return ""
}

// digits: those of a whole number, of 0 none but what the precision asks for.
func (c conversion) digits(n int) string {
	base := 10
	if c.kind == 'x' {
		base = 16
	}
	least := 1
	if c.precise {
		least = c.precision
	}
	s := ""
	if n != 0 {
		s = strconv.FormatUint(uint64(max(n, -n)), base)
	}
	return strings.Repeat("0", max(least-len(s), 0)) + s
}

// places: a number's digits with as many places as the precision asks for.
func (c conversion) places(n num.Num) string {
	wanted := allPlaces
	if c.precise {
		wanted = c.precision
	}
	whole, places, _ := strings.Cut(strings.TrimPrefix(n.Text(), "-"), ".")
	if wanted == 0 {
		return whole
	}
	places += strings.Repeat("0", max(wanted-len(places), 0))
	return whole + "." + places[:wanted]
}

// text: as many bytes of a value's text as the precision says.
func (c conversion) text(v cell.Cell) string {
	s := v.Str()
	if c.precise {
		s = s[:min(c.precision, len(s))]
	}
	return s
}

// char: the byte that a number says, or the first one of a text.
func char(v cell.Cell) string {
	if v.Kind == cell.Num {
		// byte counts modulo 256, below 0 too.
		return string([]byte{byte(v.N.Whole())})
	}
	s := v.Str()
	return s[:min(1, len(s))]
}
