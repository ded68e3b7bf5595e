package regex_test

import (
	"slices"
	"strings"
	"testing"

	"scribe/api"
	"scribe/regex"
)

// set: that of a text's bytes.
func set(bytes string) regex.Set {
	var s regex.Set
	for i := range len(bytes) {
		s[bytes[i]/64] |= 1 << (bytes[i] % 64)
	}
	return s
}

// from: all bytes from one to another.
func from(low, high int) string {
	var b []byte
	for c := low; c <= high; c++ {
		b = append(b, byte(c))
	}
	return string(b)
}

// but: all bytes except a text's.
func but(bytes string) string {
	var b []byte
	for c := range 256 {
		if strings.IndexByte(bytes, byte(c)) < 0 {
			b = append(b, byte(c))
		}
	}
	return string(b)
}

// one: one of a text's bytes.
func one(bytes string) regex.Node {
	return regex.Node{Op: regex.One, Set: set(bytes)}
}

func node(op int, kids ...regex.Node) regex.Node {
	return regex.Node{Op: op, Kids: kids}
}

func cat(kids ...regex.Node) regex.Node {
	return node(regex.Cat, kids...)
}

func alt(kids ...regex.Node) regex.Node {
	return node(regex.Alt, kids...)
}

func star(kid regex.Node) regex.Node {
	return node(regex.Star, kid)
}

func plus(kid regex.Node) regex.Node {
	return node(regex.Plus, kid)
}

func opt(kid regex.Node) regex.Node {
	return node(regex.Opt, kid)
}

var (
	a, b, c = one("a"), one("b"), one("c")
	empty   = node(regex.Empty)
	begin   = node(regex.Begin)
	end     = node(regex.End)
)

// alike: are they the same tree? A list that is nil and an empty one are the same.
func alike(m, n regex.Node) bool {
	return m.Op == n.Op && m.Set == n.Set && slices.EqualFunc(m.Kids, n.Kids, alike)
}

// tree is a pattern and what it is.
type tree struct {
	s    string
	want regex.Node
}

func check(t *testing.T, l []tree) {
	t.Helper()
	for _, x := range l {
		if n, at, e := regex.Parse(x.s); e != api.OK || at != 0 || !alike(n, x.want) {
			t.Errorf("Parse(%q): %s, %d at %d, want %s", x.s, regex.Print(n), e, at, regex.Print(x.want))
		}
	}
}

// refused is what isn't a pattern, the place and the error.
type refused struct {
	s  string
	at int
	e  api.Errno
}

func checkRefused(t *testing.T, l []refused) {
	t.Helper()
	for _, x := range l {
		if n, at, e := regex.Parse(x.s); e != x.e || at != x.at || !alike(n, regex.Node{}) {
			t.Errorf("Parse(%.60q): %s, %d at %d, want %d at %d", x.s, regex.Print(n), e, at, x.e, x.at)
		}
	}
}

// checkSyntax: texts by the places of their ErrSyntax.
func checkSyntax(t *testing.T, at int, l ...string) {
	t.Helper()
	for _, s := range l {
		checkRefused(t, []refused{{s, at, api.ErrSyntax}})
	}
}

// P9.1: the chapter's examples, and what the constants are.
func TestExamples(t *testing.T) {
	check(t, []tree{{"a|b*", alt(a, star(b))}})
	checkSyntax(t, 1, "a(b")
	checkSyntax(t, 0, "[z-a]")
	ops := []int{regex.Empty, regex.One, regex.Cat, regex.Alt, regex.Star, regex.Plus, regex.Opt, regex.Begin, regex.End}
	if !slices.Equal(ops, []int{0, 1, 2, 3, 4, 5, 6, 7, 8}) || regex.MaxBytes != 300 || regex.MaxDeep != 20 {
		t.Errorf("Op %v, MaxBytes %d, MaxDeep %d", ops, regex.MaxBytes, regex.MaxDeep)
	}
}

// P9.1: parts and things, also none, and what stands in brackets.
func TestParts(t *testing.T) {
	check(t, []tree{
		{"", empty}, {"a", a}, {"ab", cat(a, b)}, {"abc", cat(a, b, c)},
		{"a|b", alt(a, b)}, {"a|b|c", alt(a, b, c)}, {"ab|c", alt(cat(a, b), c)}, {"a|bc", alt(a, cat(b, c))},
		{"|", alt(empty, empty)}, {"||", alt(empty, empty, empty)}, {"a|", alt(a, empty)}, {"|a", alt(empty, a)}, {"a||b", alt(a, empty, b)},

		{"()", empty}, {"(())", empty}, {"()()", cat(empty, empty)}, {"()|()", alt(empty, empty)}, {"(|)", alt(empty, empty)}, {"a()", cat(a, empty)}, {"()a", cat(empty, a)}, {"a()b", cat(a, empty, b)}, {"(a|)", alt(a, empty)}, {"(|a)", alt(empty, a)},
		{"(a)", a}, {"((a))", a}, {"(a)(b)", cat(a, b)}, {"(ab)", cat(a, b)}, {"(a|b)", alt(a, b)},
		{"(ab)c", cat(cat(a, b), c)}, {"a(bc)", cat(a, cat(b, c))}, {"(ab)(ca)", cat(cat(a, b), cat(c, a))},
		{"(a|b)|c", alt(alt(a, b), c)}, {"a|(b|c)", alt(a, alt(b, c))}, {"(a|b)c", cat(alt(a, b), c)}, {"a(b|c)", cat(a, alt(b, c))}, {"(a|b)(b|c)|c", alt(cat(alt(a, b), alt(b, c)), c)}, {"((a|b)c|a)b", cat(alt(cat(alt(a, b), c), a), b)},

		{"^", begin}, {"$", end}, {"^a$", cat(begin, a, end)}, {"a^b$c", cat(a, begin, b, end, c)}, {"$^", cat(end, begin)}, {"^^", cat(begin, begin)}, {"a^|$b", alt(cat(a, begin), cat(end, b))}, {"(^)", begin}, {"(a$)", cat(a, end)},
		{".", one(but(""))}, {"..", cat(one(but("")), one(but("")))}, {"a.", cat(a, one(but("")))}, {"(.)", one(but(""))},
	})
}

// P9.1: the signs behind a thing, of each kind, and several of them.
func TestSigns(t *testing.T) {
	check(t, []tree{
		{"a*", star(a)}, {"a+", plus(a)}, {"a?", opt(a)},
		{"a**", star(star(a))}, {"a++", plus(plus(a))}, {"a??", opt(opt(a))}, {"a*+", plus(star(a))}, {"a*?", opt(star(a))}, {"a+?*", star(opt(plus(a)))}, {"a?+*+?", opt(plus(star(plus(opt(a)))))},
		{"ab*", cat(a, star(b))}, {"a*b", cat(star(a), b)}, {"a*b+c?", cat(star(a), plus(b), opt(c))}, {"a|b*", alt(a, star(b))}, {"a*|b", alt(star(a), b)},
		{"(ab)*", star(cat(a, b))}, {"(a|b)+", plus(alt(a, b))}, {"(a*)*", star(star(a))}, {"(a*b)?c", cat(opt(cat(star(a), b)), c)}, {"(a)*", star(a)}, {"((a)+)?", opt(plus(a))},
		{"()*", star(empty)}, {"()+?", opt(plus(empty))}, {"(|)*", star(alt(empty, empty))}, {"(a|)?", opt(alt(a, empty))}, {"a()*", cat(a, star(empty))},
		{"^*", star(begin)}, {"$+", plus(end)}, {"^?a", cat(opt(begin), a)}, {".*", star(one(but("")))}, {".?.", cat(opt(one(but(""))), one(but("")))},
		{"[ab]*", star(one("ab"))}, {"[*]+", plus(one("*"))}, {`\**`, star(one("*"))}, {`\\+`, plus(one(`\`))}, {"]*", star(one("]"))}, {"{*", star(one("{"))}, {"-?", opt(one("-"))},
		{"a" + strings.Repeat("*", 299), many(299, regex.Star, a)},
	})
}

// many: so many nodes of a kind, one in the other, and what is in the last one.
func many(n, op int, kid regex.Node) regex.Node {
	for range n {
		kid = node(op, kid)
	}
	return kid
}

// P9.1: a sign that follows nothing.
func TestSignsBehindNothing(t *testing.T) {
	for _, sign := range []string{"*", "+", "?"} {
		checkSyntax(t, 0, sign, sign+"a", sign+sign, sign+")", sign+"(", sign+"[", sign+`\`, sign+"|")
		checkSyntax(t, 1, "|"+sign, "("+sign, "("+sign+")", "|"+sign+"a", "("+sign+"a)")
		checkSyntax(t, 2, "a|"+sign, "a("+sign+")", "||"+sign, "(("+sign, "(|"+sign)
		checkSyntax(t, 3, "a*|"+sign, "()|"+sign, "()("+sign)
		checkSyntax(t, 4, "(a)|"+sign, "[a]|"+sign, `a\||`+sign)
	}
}

// special are the bytes that don't stand for themselves alone.
const special = `()[.^$\|*+?`

// P9.1: each byte by itself, ahead of others and behind them.
func TestBytes(t *testing.T) {
	for i := range 256 {
		s := string([]byte{byte(i)})
		if strings.Contains(special, s) {
			continue
		}
		check(t, []tree{{s, one(s)}, {s + "a", cat(one(s), a)}, {"a" + s, cat(a, one(s))}, {s + "*", star(one(s))}, {"(" + s + "|" + s + ")", alt(one(s), one(s))}})
	}
	check(t, []tree{{"]", one("]")}, {"a]", cat(a, one("]"))}, {"]]", cat(one("]"), one("]"))}, {"[a]]", cat(a, one("]"))}, {"{}", cat(one("{"), one("}"))}, {"-", one("-")}, {"/", one("/")}, {"\n", one("\n")}, {"\x00", one("\x00")}, {"\u00e9", cat(one("\xc3"), one("\xa9"))}})
	checkSyntax(t, 0, "(", ")", "[", `\`, "*", "+", "?")
}

// behindBackslash: what a byte behind a backslash stands for; false, if nothing.
func behindBackslash(c byte) (string, bool) {
	switch {
	case c == 'n':
		return "\x0a", true
	case c == 't':
		return "\x09", true
	case strings.IndexByte(" !\"#$%&'()*+,-./:;<=>?@[\\]^_`{|}~", c) >= 0:
		return string([]byte{c}), true
	}
	return "", false
}

// P9.1: each byte behind a backslash, outside of a set and within one.
func TestBackslash(t *testing.T) {
	right := 0
	for i := range 256 {
		s := string([]byte{'\\', byte(i)})
		means, ok := behindBackslash(byte(i))
		if !ok {
			checkSyntax(t, 0, s, s+"a", s+"*", s+")")
			checkSyntax(t, 1, "a"+s, "("+s+")", "["+s+"]", "["+s, "["+s+"-z]", "|"+s)
			checkSyntax(t, 2, "[^"+s+"]", "[a"+s+"b]", "[-"+s+"]", "[]"+s+"]")
			checkSyntax(t, 3, "[a-"+s+"]", "[z-"+s+"]")
			continue
		}
		right++
		check(t, []tree{{s, one(means)}, {s + s, cat(one(means), one(means))}, {"a" + s + "b", cat(a, one(means), b)}, {s + "+", plus(one(means))}, {"(" + s + ")", one(means)}, {s + "|a", alt(one(means), a)}})
		check(t, []tree{{"[" + s + "]", one(means)}, {"[^" + s + "]", one(but(means))}, {"[a" + s + "b]", one("ab" + means)}, {"[" + s + "-" + s + "]", one(means)}, {"[" + s + "-]", one(means + "-")}, {"[-" + s + "]", one(means + "-")}, {"[" + s + "-\x7f]", one(from(int(means[0]), 127))}, {"[\x00-" + s + "]", one(from(0, int(means[0])))}, {"[" + s + "]*", star(one(means))}})
	}
	if right != 35 {
		t.Errorf("%d bytes may stand behind a backslash", right)
	}
	checkSyntax(t, 0, `\`)
	checkSyntax(t, 1, `a\`, `(\`, `[\`, `|\`)
	checkSyntax(t, 2, `\\\`, `[a\`, `[^\`, `\*\`)
	checkSyntax(t, 3, `[a-\`, `[z-\`)
}

// P9.1: sets.
func TestSets(t *testing.T) {
	for s, bytes := range map[string]string{
		"a": "a", "ab": "ab", "aa": "a", "ba": "ab", "abc": "abc", "()": "()", ".*+?|$": ".*+?|$", "[": "[", "[[": "[", "a[": "a[", "\x00": "\x00", "\xff": "\xff", "\u00e9": "\xc3\xa9", " \n": " \n",
		// ] as the first byte.
		"]": "]", "]a": "]a", "]-a": "]^_`a", "]-": "]-", "]^": "]^", `]\]`: "]",
		// ^ where it says nothing.
		"a^": "a^", `\^`: "^", `\^a`: "^a", "a^b": "a^b", "-^": "-^", "]^-": "]^-",
		// - first, last, between ranges, behind one and alone.
		"-": "-", "-a": "-a", "a-": "a-", "-a-": "-a", "--": "-", "---": "-", "-a-c": "-abc", "a-c-": "abc-", "a-c-e": "abc-e", "a-ce-g": "abcefg", "a-c-e-g": "abc-efg", "a-c--": "abc-", "a-c--e": "abc" + from('-', 'e'), "+--": "+,-", "--/": "-./", "--0-2": "-./0" + "-2", "a-b-": "ab-",
		`a\-z`: "a-z", `\-a`: "-a", `a\-`: "a-", `\--/`: "-./", `+-\-`: "+,-", `a-c\-e`: "abc-e",
		// Ranges.
		"a-c": "abc", "a-a": "a", "a-b": "ab", "0-9a-f": "0123456789abcdef", "a-cb-d": "abcd", "\x00-\xff": but(""), "\x7f-\x80": "\x7f\x80", "\xfe-\xff": "\xfe\xff", "?-@": "?@", "\xbf-\xc0": "\xbf\xc0", "!-~": from(33, 126), "[-^": `[\]^`, "+-[": from('+', '['),
		`\t-\n`: "\t\n", `\[-\]`: `[\]`, `\\-\]`: `\]`, `[-\]`: `[\]`, `a\]`: "a]", `\]a`: "]a", `\]-_`: "]^_", `!-\~`: from(33, 126), `\!-~`: from(33, 126), `\n`: "\n", `n\n`: "n\n", `a-\~`: from('a', '~'),
	} {
		check(t, []tree{{"[" + s + "]", one(bytes)}, {"[^" + s + "]", one(but(bytes))}, {"a[" + s + "]b", cat(a, one(bytes), b)}, {"([" + s + "])*", star(one(bytes))}})
	}
	check(t, []tree{
		// What stands behind the ] of a set is none of it.
		{"[]]]", cat(one("]"), one("]"))}, {"[^]]]", cat(one(but("]")), one("]"))}, {"[a]-]", cat(a, one("-"), one("]"))}, {"[a]-b", cat(a, one("-"), b)}, {"[a][b]", cat(a, b)}, {"[a]|[^b]", alt(a, one(but("b")))}, {"[a]^", cat(a, begin)},
		// ^ behind a ^, ahead of a range's -.
		{"[^^]", one(but("^"))}, {"[^^^]", one(but("^"))}, {"[^^-`]", one(but("^_`"))}, {"[^a^]", one(but("a^"))}, {"[^\x00-\xff]", one("")},
	})
}

// P9.1: sets that aren't closed, and ranges the wrong way about.
func TestWrongSets(t *testing.T) {
	for _, s := range []string{
		// Not closed.
		"[", "[^", "[]", "[^]", "[a", "[^a", "[]a", "[^]a", "[-", "[a-", "[]-", "[^-", "[^]-", "[a-c", "[--", "[---", "[]-a", "[a^", `[\]`, `[^\]`, `[a\]`, `[]\]`, `[a-\]`, `[\]-`, `[\\`, "[[", "[(a)", "[*", "[a|b", "[^^", "[\x00",
		// The wrong way about, in sets that are closed and in others.
		"[z-a]", "[^z-a]", "[b-a", "[a-bd-c]", "[ab-a]", "[a--]", "[]-[]", "[]-A]", "[_-A]", "[\xff-\x00]", "[\x01-\x00]", "[\xff-\xfe]", `[\n-\t]`, `[\]-\[]`, `[a-\]]`, `[~-\!]`, `[\~-!]`, "[a-z-+-*]", "[z-a", "[z-ay-b]", "[]z-a]", "[-z-a]",
	} {
		checkSyntax(t, 0, s, s+"a", s+"(", s+"*")
		checkSyntax(t, 1, "a"+s, "("+s, "|"+s, "("+s+"a")
		checkSyntax(t, 3, "(a)"+s, "[a]"+s, "a|("+s, `\[a`+s)
	}
}
