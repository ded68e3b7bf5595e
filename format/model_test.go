package format_test

import (
	"math/big"
	"regexp"
	"strings"
	"testing"

	"scribe/api"
	"scribe/cell"
	"scribe/format"
	"scribe/num"
)

var conversion = regexp.MustCompile(`(?s)^%([-0+ ]*)([0-9]*)(\.([0-9]*))?(.?)`)

// told is the number that digits say, 0 without any; at most 1001.
func told(digits string) int {
	n, ok := new(big.Int).SetString(digits, 10)
	switch {
	case !ok:
		return 0
	case n.Cmp(big.NewInt(1000)) > 0:
		return 1001
	}
	return int(n.Int64())
}

func pad(n int, c string) string {
	return strings.Repeat(c, max(n, 0))
}

// model is the chapter's words on Print, by a pattern and by exact numbers; and how many values it takes.
func model(f string, args []cell.Cell) (string, int, api.Errno) {
	out, taken := "", 0
	for f != "" {
		m := conversion.FindStringSubmatch(f)
		if m == nil {
			out, f = out+f[:1], f[1:]
			continue
		}
		f = f[len(m[0]):]
		switch {
		case told(m[2]) > 1000 || told(m[4]) > 1000:
			return "", 0, api.ErrBig
		case m[5] == "" || !strings.Contains("dixfsc%", m[5]):
			return "", 0, api.ErrRun
		case m[5] == "%":
			out += "%"
			continue
		}
		var v cell.Cell
		if taken < len(args) {
			v = args[taken]
		}
		taken++
		out += modelValue(m, v)
		if len(out) > 4000 {
			return "", 0, api.ErrBig
		}
	}
	if len(out) > 4000 {
		return "", 0, api.ErrBig
	}
	return out, taken, api.OK
}

// modelValue: of a conversion's parts: flags, width, precision with its full stop, its digits, what stands at the end.
func modelValue(m []string, v cell.Cell) string {
	precise, precision := m[3] != "", told(m[4])
	sign, body := "", ""
	switch m[5] {
	case "s":
		body = v.Str()
		if precise && len(body) > precision {
			body = body[:precision]
		}
	case "c":
		if v.Kind == cell.Num {
			whole := new(big.Int).Quo(big.NewInt(int64(v.N)), big.NewInt(1000000))
			body = string([]byte{byte(whole.Mod(whole, big.NewInt(256)).Int64())})
		} else if v.Str() != "" {
			body = v.Str()[:1]
		}
	default:
		sign, body = modelNumber(m, v.Num())
	}
	missing := told(m[2]) - len(sign) - len(body)
	switch {
	case strings.Contains(m[1], "-"):
		return sign + body + pad(missing, " ")
	case strings.Contains(m[1], "0") && (m[5] == "f" || strings.Contains("dix", m[5]) && !precise):
		return sign + pad(missing, "0") + body
	}
	return pad(missing, " ") + sign + body
}

func modelNumber(m []string, n num.Num) (string, string) {
	precise, precision := m[3] != "", told(m[4])
	x := new(big.Int).Quo(big.NewInt(int64(n)), big.NewInt(1000000))
	below, body := x.Sign() < 0, ""
	switch m[5] {
	case "f":
		if !precise {
			precision = 6
		}
		below = n < 0
		x = new(big.Int).Mul(big.NewInt(int64(n)), new(big.Int).Exp(big.NewInt(10), big.NewInt(int64(precision)), nil))
		x.Quo(x, big.NewInt(1000000)).Abs(x)
		body = x.String()
		body = pad(precision+1-len(body), "0") + body
		if precision > 0 {
			body = body[:len(body)-precision] + "." + body[len(body)-precision:]
		}
	default:
		body = x.Abs(x).Text(map[string]int{"d": 10, "i": 10, "x": 16}[m[5]])
		body = pad(precision-len(body), "0") + body
		if precise && precision == 0 && x.Sign() == 0 {
			body = ""
		}
	}
	switch {
	case below:
		return "-", body
	case strings.Contains(m[1], "+"):
		return "+", body
	case strings.Contains(m[1], " "):
		return " ", body
	}
	return "", body
}

// values are some of each kind.
func values() []cell.Cell {
	l := []cell.Cell{{}}
	for _, n := range []num.Num{0, 1, 500000, 999999, num.One, 1500000, 7 * num.One, 65 * num.One, 255 * num.One, 300 * num.One, 123456789012, most - 1, most} {
		l = append(l, cell.Of(n), cell.Of(-n))
	}
	for _, s := range []string{"", "a", "abc", "12abc", " -3.75 ", "10", "-0", "0.0000001", "x3", "\u00e9t\u00e9", "\xff\x00", strings.Repeat("9", 30)} {
		l = append(l, cell.Text(s), cell.Input(s))
	}
	return l
}

func checkModel(t *testing.T, f string, args []cell.Cell) {
	t.Helper()
	want, _, wantE := model(f, args)
	if got, e := format.Print(f, args); got != want || e != wantE {
		t.Fatalf("Print(%q, %v): %q, %d, want %q, %d", f, args, got, e, want, wantE)
	}
}

// P7.1: each conversion with each set of flags, widths and precisions, of each kind of value.
func TestEachConversion(t *testing.T) {
	flags := []string{"--", "00", "++", "  ", "0-0", "+ +-", "-0+ -0+ "}
	for set := range 16 {
		s := ""
		for i, flag := range []string{"-", "0", "+", " "} {
			if set>>i&1 == 1 {
				s += flag
			}
		}
		flags = append(flags, s)
	}
	for _, flag := range flags {
		for _, width := range []string{"", "1", "2", "7", "30", "1000", "1001"} {
			for _, precision := range []string{"", ".", ".0", ".1", ".2", ".6", ".7", ".25", ".01000", ".1001"} {
				for _, kind := range "dixfsc%q" {
					for _, v := range values() {
						checkModel(t, "%"+flag+width+precision+string(kind), []cell.Cell{v})
					}
				}
			}
		}
	}
}

// draws are numbers of a rule, so that each run has the same ones.
type draws uint64

func (d *draws) next(below int) int {
	*d = *d*6364136223846793005 + 1442695040888963407
	return int(uint64(*d)>>33) % below
}

// pick: so many bytes of some signs.
func (d *draws) pick(signs string, n int) string {
	b := make([]byte, n)
	for i := range b {
		b[i] = signs[d.next(len(signs))]
	}
	return string(b)
}

// args: some values.
func (d *draws) args() []cell.Cell {
	all := values()
	l := make([]cell.Cell, d.next(5))
	for i := range l {
		l[i] = all[d.next(len(all))]
	}
	return l
}

// format: of whole conversions for the most part, and bytes as they are.
func (d *draws) format() string {
	s := ""
	for range d.next(6) {
		switch d.next(4) {
		case 0:
			s += d.pick("ab|\n\xff ", d.next(3))
		default:
			s += "%" + d.pick("-0+ ", d.next(3)) + d.pick("123456789", d.next(3)) + []string{"", ".", ".0", ".3", ".9"}[d.next(5)] + d.pick("dixfsc%", 1)
		}
	}
	return s
}

// P7.1: formats of the bytes that matter, with many faults in them.
func TestAnyFormat(t *testing.T) {
	var d draws
	for range 100000 {
		checkModel(t, d.pick("%%%dixfsc-0+ 127.a", d.next(14)), d.args())
		checkModel(t, d.format(), d.args())
	}
}

// P7.2: a text without percent signs is itself.
func TestPlainText(t *testing.T) {
	every := make([]byte, 0, 256)
	for c := range 256 {
		if c != '%' {
			every = append(every, byte(c))
		}
	}
	var d draws
	for i := range 4001 {
		s := d.pick(string(every), i)
		for _, args := range [][]cell.Cell{nil, d.args()} {
			if got, e := format.Print(s, args); got != s || e != api.OK {
				t.Fatalf("Print(%q): %q, %d", s, got, e)
			}
		}
	}
	if got, e := format.Print(string(every), nil); got != string(every) || e != api.OK {
		t.Errorf("Print of every byte: %q, %d", got, e)
	}
}

// P7.2: a format of two parts, neither of which ends within a conversion, is both.
func TestTwoParts(t *testing.T) {
	d := draws(7)
	for range 100000 {
		f, g, args := d.format(), d.format(), d.args()
		_, taken, _ := model(f, args)
		first, e1 := format.Print(f, args)
		second, e2 := format.Print(g, args[min(taken, len(args)):])
		both, e := format.Print(f+g, args)
		if e1 != api.OK || e2 != api.OK || e != api.OK || both != first+second {
			t.Fatalf("Print(%q + %q, %v): %q, %d, of the parts %q, %d and %q, %d", f, g, args, both, e, first, e1, second, e2)
		}
	}
}
