package format_test

import (
	"math"
	"slices"
	"strings"
	"testing"
	"unsafe"

	"scribe/api"
	"scribe/cell"
	"scribe/format"
	"scribe/num"
)

const most = num.Most

// row: values, of numbers that are millionths, texts, and values.
func row(l ...any) []cell.Cell {
	var out []cell.Cell
	for _, x := range l {
		switch x := x.(type) {
		case int:
			out = append(out, cell.Int(x))
		case num.Num:
			out = append(out, cell.Of(x))
		case string:
			out = append(out, cell.Text(x))
		case cell.Cell:
			out = append(out, x)
		}
	}
	return out
}

// printed is a format, its values, and what is printed.
type printed struct {
	f    string
	args []cell.Cell
	want string
}

func check(t *testing.T, l []printed) {
	t.Helper()
	for _, c := range l {
		if got, e := format.Print(c.f, c.args); got != c.want || e != api.OK {
			t.Errorf("Print(%q, %v): %q, %d, want %q", c.f, c.args, got, e, c.want)
		}
	}
}

// P7.1: the chapter's example.
func TestExample(t *testing.T) {
	check(t, []printed{{"%5.2f|%-4d|%04d|%x|%.2s|%c%%", row(num.Num(-1239000), 7, -7, 255, "abc", "xy"), "-1.23|7   |-007|ff|ab|x%"}})
	if format.MaxWidth != 1000 {
		t.Errorf("MaxWidth %d", format.MaxWidth)
	}
}

// P7.1: d and i, x.
func TestWholeNumbers(t *testing.T) {
	check(t, []printed{
		{"%d", row(0), "0"}, {"%d", row(7), "7"}, {"%d", row(-7), "-7"}, {"%i", row(1234567), "1234567"}, {"%x", row(0), "0"}, {"%x", row(255), "ff"}, {"%x", row(-255), "-ff"}, {"%x", row(0xabcdef), "abcdef"},
		{"%d", row(most), "4611686018427"}, {"%d", row(-most), "-4611686018427"}, {"%i", row(most), "4611686018427"}, {"%x", row(most), "431bde82d7b"}, {"%x", row(-most), "-431bde82d7b"},

		// Without places; a number that is whole only then has no sign of its own.
		{"%d %i %x", row(num.Num(1999999), num.Num(-1999999), num.Num(15900000)), "1 -1 f"},
		{"%d %i %x", row(num.Num(999999), num.Num(-999999), num.Num(-1)), "0 0 0"},
		{"%+d %+i % x", row(num.Num(-500000), num.Num(-999999), num.Num(-1)), "+0 +0  0"},

		// Each flag, and several.
		{"%+d|%+d|%+d", row(5, -5, 0), "+5|-5|+0"}, {"% d|% d|% d", row(5, -5, 0), " 5|-5| 0"}, {"%+ d|% +d|% + + d", row(5, 5, -5), "+5|+5|-5"}, {"%+x|% x", row(255, 255), "+ff| ff"}, {"%++d|%  d", row(5, 5), "+5| 5"},
		{"%-d|%0d|%--d|%00d", row(5, 5, 5, 5), "5|5|5|5"},
		{"%4d|%-4d|%04d|%+4d|% 4d", row(5, 5, 5, 5, 5), "   5|5   |0005|  +5|   5"},
		{"%4d|%-4d|%04d|%+4d|% 4d", row(-5, -5, -5, -5, -5), "  -5|-5  |-005|  -5|  -5"},
		{"%-04d|%0-4d|%-+4d|%- 4d|%+04d|%0+4d|% 04d|%0 4d", row(5, 5, 5, 5, 5, 5, 5, 5), "5   |5   |+5  | 5  |+005|+005| 005| 005"},
		{"%0000000004d|%----4d|%-0+ -0+ 4d", row(5, 5, 5), "0005|5   |+5  "},
		{"%4x|%-4x|%04x|%+04x", row(255, 255, -255, 255), "  ff|ff  |-0ff|+0ff"},

		// Widths that are none, too small, just enough, and the greatest.
		{"%0d|%1d|%2d|%3d|%4d", row(123, 123, 123, 123, 123), "123|123|123|123| 123"},
		{"%1d|%2d|%02d|%-2d|%+1d", row(-5, -5, -5, -5, 5), "-5|-5|-5|-5|+5"},
		{"%1000d", row(5), strings.Repeat(" ", 999) + "5"}, {"%-1000d", row(5), "5" + strings.Repeat(" ", 999)}, {"%01000d", row(-5), "-" + strings.Repeat("0", 998) + "5"},

		// Precisions; none behind a full stop is 0.
		{"%.3d|%.3d|%.1d|%.0d|%.d", row(7, -7, 7, 7, 7), "007|-007|7|7|7"}, {"%.2d|%.3d|%.4d", row(123, 123, 123), "123|123|0123"}, {"%.4x|%.4x", row(255, -255), "00ff|-00ff"}, {"%.003d", row(7), "007"},
		{"|%.0d|%.d|%.0x|%.i|", row(0, 0, 0, 0), "|||||"}, {"%.1d|%.2d|%.1x", row(0, 0, 0), "0|00|0"}, {"|%.0d|%.0d|", row(num.Num(999999), num.Num(-1)), "|||"},
		{"|%+.0d|% .0d|%3.0d|%-3.0d|%03.0d|%+3.d|", row(0, 0, 0, 0, 0, 0), "|+| |   |   |   |  +|"},
		{"%5.3d|%-5.3d|%5.3d|%-5.3d|%+5.3d|% 5.3d", row(7, 7, -7, -7, 7, 7), "  007|007  | -007|-007 | +007|  007"},
		{"%2.4d|%4.4d|%5.4d", row(7, 7, 7), "0007|0007| 0007"},
		// With a precision the width is filled with blanks.
		{"%05.3d|%05.0d|%05.d|%05.1x|%+05.2i|%0-5.2d|", row(7, 7, 7, 7, 7, 7), "  007|    7|    7|    7|  +07|07   |"},
		{"%.1000d", row(-5), "-" + strings.Repeat("0", 999) + "5"}, {"%1000.1000x", row(10), strings.Repeat("0", 999) + "a"},
	})
}

// P7.1: f.
func TestPlaces(t *testing.T) {
	check(t, []printed{
		{"%f", row(0), "0.000000"}, {"%f", row(2), "2.000000"}, {"%f", row(-2), "-2.000000"}, {"%f", row(num.Num(1)), "0.000001"}, {"%f", row(num.Num(-1)), "-0.000001"}, {"%f", row(num.Num(-1500000)), "-1.500000"}, {"%f", row(num.Num(10020300)), "10.020300"},
		{"%f", row(most), "4611686018427.387903"}, {"%f", row(-most), "-4611686018427.387903"}, {"%.2f", row(most), "4611686018427.38"}, {"%.0f", row(-most), "-4611686018427"},

		// Precisions: what isn't asked for is cut off.
		{"%.0f|%.f|%.1f|%.2f|%.5f|%.6f", row(num.Num(1999999), num.Num(1999999), num.Num(1999999), num.Num(1999999), num.Num(1999999), num.Num(1999999)), "1|1|1.9|1.99|1.99999|1.999999"},
		{"%.7f|%.8f|%.8f|%.10f", row(1, num.Num(1), num.Num(1500000), -2), "1.0000000|0.00000100|1.50000000|-2.0000000000"},
		{"%.3f|%.3f|%.2f", row(num.Num(1500000), num.Num(1050000), num.Num(10)), "1.500|1.050|0.00"},
		{"%.1000f", row(num.Num(-1500000)), "-1.5" + strings.Repeat("0", 999)},
		{"%.006f|%.0f|%.f", row(1, 0, 0), "1.000000|0|0"},

		// - of a number whose digits are all 0 too.
		{"%.0f|%.f|%.1f|%.5f|%.6f", row(num.Num(-500000), num.Num(-1), num.Num(-1), num.Num(-9), num.Num(-1)), "-0|-0|-0.0|-0.00000|-0.000001"},
		{"%+.0f|% .0f|%+.0f", row(num.Num(-1), num.Num(-1), 0), "-0|-0|+0"},

		// Flags and widths; noughts whatever the precision.
		{"%+f|% f|%+ f|%+f", row(1, 1, 1, -1), "+1.000000| 1.000000|+1.000000|-1.000000"},
		{"%6.2f|%-6.2f|%06.2f|%+06.2f|% 06.2f|%-06.2f|", row(1, 1, 1, 1, 1, 1), "  1.00|1.00  |001.00|+01.00| 01.00|1.00  |"},
		{"%6.2f|%-6.2f|%06.2f|%+06.2f", row(-1, -1, -1, -1), " -1.00|-1.00 |-01.00|-01.00"},
		{"%010f|%10f|%9f|%8f|%7f|%1f", row(1, 1, 1, 1, 1, 1), "001.000000|  1.000000| 1.000000|1.000000|1.000000|1.000000"},
		{"%05.0f|%5.0f|%-5.f|%05.f", row(7, 7, 7, num.Num(-1)), "00007|    7|7    |-0000"},
		{"%01000f", row(-1), "-" + strings.Repeat("0", 991) + "1.000000"},
	})
}

// P7.1: s and c, of each kind of value.
func TestTexts(t *testing.T) {
	check(t, []printed{
		{"%s", row("abc"), "abc"}, {"%s", row(""), ""}, {"%s", row(cell.Cell{}), ""}, {"%s", row(num.Num(1500000)), "1.5"}, {"%s", row(-7), "-7"}, {"%s", row(-most), "-4611686018427.387903"}, {"%s", row(cell.Input(" 10 ")), " 10 "}, {"%s", row("a\x00\n\xff%d"), "a\x00\n\xff%d"},
		{"%.2s|%.3s|%.4s|%.1s|%.0s|%.s|", row("abc", "abc", "abc", "abc", "abc", "abc"), "ab|abc|abc|a|||"}, {"|%.0s|%.5s|%.2s|%.2s|", row("", "", cell.Cell{}, num.Num(-1500000)), "||||-1|"}, {"%.3s", row(cell.Input(" 10 ")), " 10"}, {"%.1000s", row("abc"), "abc"},
		{"%.1s", row("\u00e9"), "\xc3"},
		{"%5s|%-5s|%05s|%+5s|% 5s|%-05s|%+s|% s|%0s|", row("abc", "abc", "abc", "abc", "abc", "abc", "abc", "abc", "abc"), "  abc|abc  |  abc|  abc|  abc|abc  |abc|abc|abc|"},
		{"%05s|%+5s|%05s|%-5s|", row(7, 7, -7, -7), "    7|    7|   -7|-7   |"}, {"%5.2s|%-5.2s|%05.2s|%1.2s|%2.0s|", row("abc", "abc", "abc", "abc", "abc"), "   ab|ab   |   ab|ab|  |"},
		{"%3s|%-3s|%03s|", row("", cell.Cell{}, ""), "   |   |   |"}, {"%2s|%3s|%4s", row("abc", "abc", "abc"), "abc|abc| abc"}, {"%1000s", row("abc"), strings.Repeat(" ", 997) + "abc"},
		{"%3s", row("\u00e9"), " \u00e9"}, // a width is bytes

		{"%c", row(65), "A"}, {"%c", row(num.Num(65999999)), "A"}, {"%c", row(0), "\x00"}, {"%c", row(255), "\xff"}, {"%c", row(256), "\x00"}, {"%c", row(321), "A"}, {"%c", row(-1), "\xff"}, {"%c", row(-191), "A"}, {"%c", row(-256), "\x00"}, {"%c", row(num.Num(-999999)), "\x00"},
		{"%c", row(most), "\x7b"}, {"%c", row(-most), "\x85"}, {"%c", row(10), "\n"}, {"%c", row(233), "\xe9"},
		{"%c|%c|%c|%c|%c|", row("xy", "", "65", cell.Cell{}, cell.Input(" 65 ")), "x||6|| |"}, {"%c", row(cell.Input("65")), "6"}, {"%c", row("\u00e9"), "\xc3"}, {"%c", row("\x00b"), "\x00"},
		{"%3c|%-3c|%03c|%+3c|% 3c|%3c|%-3c|%03c|", row(65, 65, 65, 65, 65, "", "", ""), "  A|A  |  A|  A|  A|   |   |   |"}, {"%.0c|%.5c|%.c|%3.0c|", row(65, "xyz", "xyz", 65), "A|x|x|  A|"}, {"%1c|%0c|%+c|% c", row(65, 65, 65, 65), "A|A|A|A"},
		{"%1000c", row(65), strings.Repeat(" ", 999) + "A"},
	})
}

// P7.1: numbers of values that are texts, or none.
func TestNumbersOfTexts(t *testing.T) {
	check(t, []printed{
		{"%d %i %x %f", row("12abc", " -3.9x", "+255", ".5."), "12 -3 ff 0.500000"},
		{"%d %i %x %f", row("abc", "", "-", "."), "0 0 0 0.000000"},
		{"%d %i %x %f", row(cell.Input(" 10 "), cell.Input("-0.5"), cell.Input("16"), cell.Input("-0.5")), "10 0 10 -0.500000"},
		{"%d %i %x %f", row(cell.Cell{}, cell.Cell{}, cell.Cell{}, cell.Cell{}), "0 0 0 0.000000"},
		{"%d %x", row("99999999999999999999", "-99999999999999999999"), "4611686018427 -431bde82d7b"},
		{"%.2f", row("1.2399999"), "1.23"},
		{"%+.0f|%+d", row("-0", "-0.000001"), "+0|+0"},
	})
}

// P7.1: a percent sign, whatever its flags and width; it takes no value.
func TestPercentSigns(t *testing.T) {
	check(t, []printed{
		{"%%", nil, "%"}, {"%%%%", nil, "%%"}, {"a%%b", nil, "a%b"}, {"%5%", nil, "%"}, {"%-5%", nil, "%"}, {"%05%|%+%|% %|%-0+ 12%", nil, "%|%|%|%"}, {"%.%|%.0%|%.3%|%1000.1000%", nil, "%|%|%|%"},
		{"%%d", row(7), "%d"}, {"%%%d", row(7), "%7"}, {"%d%%%d", row(1, 2), "1%2"}, {"%5%%d", row(7), "%7"},
	})
}

// P7.1: fewer values than conversions, and more.
func TestCounts(t *testing.T) {
	check(t, []printed{
		{"%d %s|%x|%f|%c|%i", nil, "0 |0|0.000000||0"}, {"%d %d %d", row(1, 2), "1 2 0"}, {"%s%s|%3s|", row("a"), "a|   |"}, {"%d", row(1, 2, 3), "1"}, {"", row(1, 2), ""}, {"abc", row(1), "abc"}, {"%s", []cell.Cell{}, ""},
		{"%s%s%s", row("a", "b", "c"), "abc"}, {"%s", row("%s", "x"), "%s"},
	})
}

// refused is a format, its values, and the error.
type refused struct {
	f    string
	args []cell.Cell
	want api.Errno
}

func checkRefused(t *testing.T, l []refused) {
	t.Helper()
	for _, c := range l {
		if got, e := format.Print(c.f, c.args); got != "" || e != c.want {
			t.Errorf("Print(%.60q, %d values): %.60q, %d, want %d", c.f, len(c.args), got, e, c.want)
		}
	}
}

// P7.1: what isn't one of the seven, and a format that ends within a conversion.
func TestWrongFormats(t *testing.T) {
	var l []refused
	for c := range 256 {
		if !strings.Contains("dixfsc%-0+ 123456789.", string(rune(c))) || c >= 0x80 {
			l = append(l, refused{"%" + string([]byte{byte(c)}), row(1), api.ErrRun}, refused{"%-05.2" + string([]byte{byte(c)}) + "d", row(1), api.ErrRun})
		}
	}
	for _, f := range []string{"%", "%5", "%-", "%0", "%+", "% ", "%-0+ ", "%.", "%5.", "%.3", "%-5.3", "%1000", "%.1000", "%%%", "%d%", "abc%", "abc%5"} {
		l = append(l, refused{f, row(1), api.ErrRun})
	}
	// Flags, widths and full stops where none may be any more.
	for _, f := range []string{"%5-d", "%5+d", "%5 d", "%.-5d", "%.+5d", "%. 5d", "%.5-d", "%.5+d", "%.5 d", "%..d", "%.5.d", "%.5.5d", "%5..d", "%*d", "%.*d", "%ld", "%5ls", "%D", "%X", "%e", "%g", "%q", "%u", "%o", "%n", "%\x00", "%\n"} {
		l = append(l, refused{f, row(1), api.ErrRun})
	}
	checkRefused(t, l)
}

// P7.1: widths and precisions beyond MaxWidth, whatever stands behind them.
func TestTooWide(t *testing.T) {
	var l []refused
	for _, n := range []string{"1001", "2000", "9999", "10000", "4294967296", "4294967297", "9223372036854775807", "9223372036854775808", "18446744073709551616", "18446744073709551621", strings.Repeat("1", 3000), "1" + strings.Repeat("0", 3000)} {
		for _, behind := range []string{"d", "i", "x", "f", "s", "c", "%", "q", "", "-d", "."} {
			l = append(l, refused{"%" + n + behind, row(1), api.ErrBig}, refused{"%-0" + n + behind, row(1), api.ErrBig})
			if behind != "." {
				l = append(l, refused{"%." + n + behind, row(1), api.ErrBig}, refused{"%5.0" + n + behind, row(1), api.ErrBig}, refused{"%" + n + ".5" + behind, row(1), api.ErrBig})
			}
		}
		l = append(l, refused{"%." + n + ".d", row(1), api.ErrBig})
	}
	checkRefused(t, l)
	check(t, []printed{{"%0001000%%.0001000%", nil, "%%"}, {"%" + strings.Repeat("0", 5000) + "3d", row(7), "007"}, {"%." + strings.Repeat("0", 5000) + "3d", row(7), "007"}})
}

// P7.1: which of two errors is the first.
func TestFirstError(t *testing.T) {
	long := strings.Repeat("x", 4001)
	checkRefused(t, []refused{
		{"%q%1001d", nil, api.ErrRun}, {"%1001d%q", nil, api.ErrBig}, {"%1001q", nil, api.ErrBig}, {"%.1001", nil, api.ErrBig},
		{"%%%q%1001d", nil, api.ErrRun}, {"%d%d%.1001s%q", row(1), api.ErrBig},
		// Bytes that are too many are told behind a conversion of a value, or at the end.
		{long, nil, api.ErrBig}, {long + "%q", nil, api.ErrRun}, {long + "%", nil, api.ErrRun}, {long + "%5", nil, api.ErrRun}, {long + "%%%q", nil, api.ErrRun}, {long + "%%", nil, api.ErrBig}, {long + "%5%x%q", nil, api.ErrRun},
		{long + "%s%q", nil, api.ErrBig}, {long + "%.0d%q", nil, api.ErrBig}, {long + "%c%", nil, api.ErrBig}, {"%q" + long, nil, api.ErrRun}, {"%s%q", row(long), api.ErrBig}, {"%s%1001d", row(long), api.ErrBig}, {"%.4s%q", row(long), api.ErrRun},
		{"%1000d%1000d%1000d%1000d%c%q", row(1, 2, 3, 4, 5), api.ErrBig}, {"%1000d%1000d%1000d%1000d%q", row(1, 2, 3, 4), api.ErrRun},
	})
}

// P7.1: results of MaxText bytes, and of one more.
func TestMaxText(t *testing.T) {
	text := strings.Repeat("0123456789", 400)
	filled := strings.Repeat(" ", 999) + "7"
	four := strings.Repeat("%1000d", 4)
	check(t, []printed{
		{text, nil, text}, {text[1:] + "%%", nil, text[1:] + "%"}, {"%s", row(text), text}, {"%s%s", row(text[:1], text[1:]), text}, {"%c" + text[1:], row(48), text}, {text + "%s%s%.0d", row(""), text},
		{four, row(7, 7, 7, 7), strings.Repeat(filled, 4)}, {"%.1000s", row(text), text[:1000]}, {"%.500s", row(text + text), text[:500]},
	})
	checkRefused(t, []refused{
		{text + "x", nil, api.ErrBig}, {text + "%%", nil, api.ErrBig}, {text + "%c", row(65), api.ErrBig}, {"%s", row(text + "x"), api.ErrBig}, {"%s%s", row(text, "x"), api.ErrBig}, {"%sx", row(text), api.ErrBig}, {"%s%%", row(text), api.ErrBig},
		{four + "%d", row(7, 7, 7, 7, 7), api.ErrBig}, {four + "x", row(7, 7, 7, 7), api.ErrBig}, {strings.Repeat("%1000d", 61), nil, api.ErrBig}, {strings.Repeat("%%", 4001), nil, api.ErrBig}, {"%s", row(strings.Repeat("x", 1<<20)), api.ErrBig},
	})
}

// P2: nothing that is handed in is changed, nor the room behind it; the answer is new memory (K3).
func TestNothingShared(t *testing.T) {
	args := row(1, "abc", cell.Input("2"), 3)
	were := slices.Clone(args)
	f := "a text"
	s, _ := format.Print(f, args)
	one, _ := format.Print("%s", args[1:2])
	two, _ := format.Print("%s", args[1:2])
	format.Print("%d%d%d%d", args[:2])
	if !slices.Equal(args, were) {
		t.Errorf("the values are %v, were %v", args, were)
	}
	start := func(s string) *byte { return unsafe.StringData(s) }
	if start(s) == start(f) || start(one) == start(args[1].S) || start(one) == start(two) {
		t.Error("a result shares its bytes")
	}
}

// P1: what isn't a value lets nothing panic either.
func TestWhatIsNoneEnds(t *testing.T) {
	for _, c := range []cell.Cell{{Kind: -1, N: 1, S: "x"}, {Kind: 4, N: -1, S: "x"}, {N: 1, S: "x"}, {Kind: 1, N: math.MinInt64, S: "x"}, {Kind: 1, N: math.MaxInt64}, {Kind: 2, N: math.MaxInt64}, {Kind: 3, S: "x"}} {
		for _, f := range []string{"%d", "%.0i", "%x", "%f", "%.0f", "%.20f", "%s", "%.1s", "%c"} {
			if _, e := format.Print(f, []cell.Cell{c}); e != api.OK {
				t.Errorf("Print(%q, %v): %d", f, c, e)
			}
		}
	}
}
