package match_test

import (
	"iter"
	"slices"
	"strings"
	"testing"
	"unsafe"

	"scribe/api"
	"scribe/match"
	"scribe/regex"
)

// span is where a match begins and where it ends.
type span [2]int

func of(t *testing.T, pattern string) *match.Prog {
	t.Helper()
	p, at, e := match.Of(pattern)
	if p == nil || at != 0 || e != api.OK {
		t.Fatalf("Of(%q): %v, %d at %d", pattern, p, e, at)
	}
	return p
}

// all: what an iterator tells.
func all(it iter.Seq2[int, int]) []span {
	var l []span
	for from, to := range it {
		l = append(l, span{from, to})
	}
	return l
}

// found is a pattern, a text, a place to look from, and what is found.
type found struct {
	p, s string
	at   int
	want span
}

// nothing is what is wanted where nothing is to be found.
var nothing = span{-1, -1}

func check(t *testing.T, l []found) {
	t.Helper()
	for _, x := range l {
		want, wantOK := x.want, x.want != nothing
		if !wantOK {
			want = span{}
		}
		p := of(t, x.p)
		if from, to, ok := p.Find(x.s, x.at); from != want[0] || to != want[1] || ok != wantOK {
			t.Errorf("Find of %.60q in %.60q from %d: %d, %d, %v, want %v, %v", x.p, x.s, x.at, from, to, ok, want, wantOK)
		}
		if x.at == 0 && p.In(x.s) != wantOK {
			t.Errorf("In of %.60q in %.60q: %v", x.p, x.s, p.In(x.s))
		}
	}
}

// told is a pattern, a text, and all matches.
type told struct {
	p, s string
	want []span
}

func checkAll(t *testing.T, l []told) {
	t.Helper()
	for _, x := range l {
		if got := all(of(t, x.p).All(x.s)); !slices.Equal(got, x.want) {
			t.Errorf("All of %q in %q: %v, want %v", x.p, x.s, got, x.want)
		}
	}
}

// P10.1: the chapter's examples.
func TestExamples(t *testing.T) {
	check(t, []found{{"a*b", "xaabb", 0, span{1, 4}}})
	checkAll(t, []told{{"a*", "baac", []span{{0, 0}, {1, 3}, {4, 4}}}})
	if match.MaxStates != 2000 {
		t.Errorf("MaxStates %d", match.MaxStates)
	}
}

// P10.1: Of tells what regex.Parse tells of it, and makes what Compile makes.
func TestOf(t *testing.T) {
	for _, s := range []string{"a[", "a(b", "[z-a]", "*", "a|*", ")", "((a)", `ab\d`, `\`, "[a\\", strings.Repeat("(", 21), "a" + strings.Repeat("(", 30), strings.Repeat("a", 301), "", "a", "(a|b)*", strings.Repeat("a", 300), strings.Repeat("|", 300), strings.Repeat("()", 150), "a" + strings.Repeat("*", 299), strings.Repeat("a*", 150)} {
		n, wantAt, wantE := regex.Parse(s)
		p, at, e := match.Of(s)
		if at != wantAt || e != wantE || (p != nil) != (e == api.OK) {
			t.Errorf("Of(%.40q): %v, %d at %d, want %d at %d", s, p, e, at, wantE, wantAt)
		}
		if e != api.OK {
			continue
		}
		q, e := match.Compile(n)
		if q == nil || e != api.OK {
			t.Errorf("Compile of %.40q: %v, %d", s, q, e)
			continue
		}
		for _, text := range []string{"", "a", "bab", "xaay", strings.Repeat("a", 310)} {
			if got, want := all(p.All(text)), all(q.All(text)); !slices.Equal(got, want) {
				t.Errorf("%.40q in %.40q: of Of %v, of Compile %v", s, text, got, want)
			}
		}
	}
}

// P10.1: what each kind of node is met by.
func TestKinds(t *testing.T) {
	check(t, []found{
		{"", "", 0, span{0, 0}}, {"", "ab", 0, span{0, 0}}, {"()", "ab", 0, span{0, 0}}, {"|", "a", 0, span{0, 0}},
		{"a", "", 0, nothing}, {"a", "a", 0, span{0, 1}}, {"a", "b", 0, nothing}, {"a", "bab", 0, span{1, 2}}, {"A", "a", 0, nothing},
		{".", "", 0, nothing}, {".", "\n", 0, span{0, 1}}, {".", "\x00", 0, span{0, 1}}, {".", "\xff", 0, span{0, 1}}, {".", "\u00e9", 0, span{0, 1}}, {"..", "\u00e9", 0, span{0, 2}}, {".*", "a\nb\x00", 0, span{0, 4}},
		{"[ab]", "cb", 0, span{1, 2}}, {"[^ab]", "abc", 0, span{2, 3}}, {"[^ab]", "ab\n", 0, span{2, 3}}, {"[^ab]", "abab", 0, nothing}, {"[b-y]+", "azbyza", 0, span{2, 4}}, {"[^\x00-\x7f]", "ab\x80", 0, span{2, 3}}, {"[\x00]", "a\x00", 0, span{1, 2}}, {"[\xc0-\xff]+", "\x80\xbf\xc0\xff\x00", 0, span{2, 4}}, {`\n`, "a\n", 0, span{1, 2}}, {`\.`, "a.", 0, span{1, 2}},
		{"[^\x00-\xff]", "ab", 0, nothing}, {"a[^\x00-\xff]|b", "ab", 0, span{1, 2}}, {"[^\x00-\xff]*", "ab", 0, span{0, 0}}, {"a[^\x00-\xff]?", "ba", 0, span{1, 2}},
		{"ab", "aab", 0, span{1, 3}}, {"ab", "ba", 0, nothing}, {"aab", "aaab", 0, span{1, 4}}, {"abab", "abaabab", 0, span{3, 7}}, {"abc", "ab", 0, nothing},
		{"a|b", "cba", 0, span{1, 2}}, {"ab|cd", "acbcd", 0, span{3, 5}}, {"a(b|c)d", "abcacd", 0, span{3, 6}}, {"a|b|", "c", 0, span{0, 0}}, {"(|a)b", "aab", 0, span{1, 3}},
		{"a*", "", 0, span{0, 0}}, {"a*", "aab", 0, span{0, 2}}, {"a*", "b", 0, span{0, 0}}, {"ba*", "aba", 0, span{1, 3}}, {"ba*c", "baab", 0, nothing}, {"a*a", "aaa", 0, span{0, 3}}, {"a*a*", "aaa", 0, span{0, 3}}, {"(ab)*", "ababa", 0, span{0, 4}}, {"(a|b)*c", "xabac", 0, span{1, 5}},
		{"a+", "", 0, nothing}, {"a+", "baab", 0, span{1, 3}}, {"a+", "b", 0, nothing}, {"(ab)+", "aabab", 0, span{1, 5}}, {"a+a+", "a", 0, nothing}, {"a+a+", "aa", 0, span{0, 2}},
		{"a?", "ba", 0, span{0, 0}}, {"a?", "aa", 0, span{0, 1}}, {"ba?", "abab", 0, span{1, 3}}, {"a?b", "aab", 0, span{1, 3}}, {"a?a?a?", "aa", 0, span{0, 2}}, {"(ab)?c", "abc", 0, span{0, 3}}, {"(ab)?c", "bc", 0, span{1, 2}},
		{"a**", "aab", 0, span{0, 2}}, {"a+?", "baa", 0, span{0, 0}}, {"a?+", "aaa", 0, span{0, 3}}, {"a?*b", "aab", 0, span{0, 3}}, {"a++", "b", 0, nothing},
	})
}

// P10.1: leftmost before longest, longest before the order of the parts.
func TestWhichMatch(t *testing.T) {
	check(t, []found{
		{"a|bbb", "abbb", 0, span{0, 1}}, {"a|bbbb", "cabbbb", 0, span{1, 2}}, {"bcd|abcde", "abcde", 0, span{0, 5}}, {"bc|abcd", "abcx", 0, span{1, 3}}, {"b+|ab", "abbb", 0, span{0, 2}}, {"b+|aba", "abbb", 0, span{1, 4}}, {"c|b*", "abc", 0, span{0, 0}}, {"x*", "aax", 0, span{0, 0}},
		{"a|ab", "ab", 0, span{0, 2}}, {"a|ab|abc", "abcd", 0, span{0, 3}}, {"abc|ab|a", "abcd", 0, span{0, 3}}, {"ab|abc|a", "abcd", 0, span{0, 3}}, {"(a|ab)(c|bcd)", "abcd", 0, span{0, 4}}, {"(ab|a)(bcd|c)", "abcd", 0, span{0, 4}}, {"|a", "a", 0, span{0, 1}}, {"a|", "a", 0, span{0, 1}}, {"(|a)(|b)", "ab", 0, span{0, 2}}, {"a?|ab", "ab", 0, span{0, 2}}, {"(a|ab)*", "abab", 0, span{0, 4}}, {"(a|ab)+b", "abb", 0, span{0, 3}}, {"a*|b", "b", 0, span{0, 1}}, {"b|a*", "b", 0, span{0, 1}}, {"a*(ab)?", "aab", 0, span{0, 3}}, {"(a*|b)*c?", "aabbac", 0, span{0, 6}},
		// What goes on beyond the end, but to no end of its own.
		{"a|a*b", "aaac", 0, span{0, 1}}, {"ab|abcdx", "abcde", 0, span{0, 2}}, {"abcdx|bc", "abcde", 0, span{1, 3}}, {"abcdx|bcdey|d", "abcde", 0, span{3, 4}}, {"(ab)*|abababx", "ababab", 0, span{0, 6}}, {"(ab)+(ac)?", "ababa", 0, span{0, 4}},
	})
}

// P10.1: the text's beginning and its end, also at places that aren't.
func TestEnds(t *testing.T) {
	check(t, []found{
		{"^", "", 0, span{0, 0}}, {"$", "", 0, span{0, 0}}, {"^$", "", 0, span{0, 0}}, {"$^", "", 0, span{0, 0}}, {"^", "ab", 0, span{0, 0}}, {"$", "ab", 0, span{2, 2}}, {"^$", "a", 0, nothing}, {"$^", "a", 0, nothing},
		{"^a", "aa", 0, span{0, 1}}, {"^b", "ab", 0, nothing}, {"a$", "aa", 0, span{1, 2}}, {"a$", "ab", 0, nothing}, {"^ab$", "ab", 0, span{0, 2}}, {"^ab$", "abb", 0, nothing}, {"^ab$", "aab", 0, nothing}, {"^a*$", "aaa", 0, span{0, 3}}, {"b$", "abb", 0, span{2, 3}},
		{"a^b", "ab", 0, nothing}, {"a$b", "ab", 0, nothing}, {"a^", "aa", 0, nothing}, {"$a", "aa", 0, nothing}, {"a\n^b", "a\nb", 0, nothing}, {"a$", "a\nb", 0, nothing}, {"^b", "a\nb", 0, nothing}, {"a$", "a\n", 0, nothing},
		{"^^a", "a", 0, span{0, 1}}, {"a$$", "a", 0, span{0, 1}}, {"a?^b", "b", 0, span{0, 1}}, {"a?^b", "ab", 0, nothing}, {"a$b?", "ab", 0, nothing}, {"a$b?", "a", 0, span{0, 1}}, {"a*^b*", "aabb", 0, span{0, 0}}, {"a*^b*", "bb", 0, span{0, 2}}, {"a*$b*", "aabb", 0, span{4, 4}}, {"a*$b*", "aa", 0, span{0, 2}},
		{"^|b", "ab", 0, span{0, 0}}, {"$|a", "ab", 0, span{0, 1}}, {"b|$", "ab", 0, span{1, 2}}, {"(^a|b)*", "abab", 0, span{0, 2}}, {"(^a|b)+", "bab", 0, span{0, 1}}, {"(a|b$)*", "abab", 0, span{0, 1}}, {"(a|b$)+", "bab", 0, span{1, 3}}, {"(^|b)a", "ba", 0, span{0, 2}}, {"(^|b)a", "ca", 0, nothing}, {"a(b|$)", "aca", 0, span{2, 3}},
		{"^*a", "ba", 0, span{1, 2}}, {"^+a", "ba", 0, nothing}, {"^?a", "ba", 0, span{1, 2}}, {"a$*", "ab", 0, span{0, 1}}, {"a$+", "ab", 0, nothing}, {"a$?", "ab", 0, span{0, 1}}, {"(^a)*", "aa", 0, span{0, 1}}, {"(a$)*", "aa", 0, span{0, 0}}, {"(a$)+", "aa", 0, span{1, 2}}, {"(a^)*", "aa", 0, span{0, 0}}, {"($a)*", "aa", 0, span{0, 0}}, {"(^|a)(^|b)(^|c)", "abc", 0, span{0, 3}}, {"(a|$)(b|$)(c|$)", "ab", 0, span{0, 2}},
		// The beginning is place 0, wherever it is looked from.
		{"^", "aa", 1, nothing}, {"^", "aa", 2, nothing}, {"^a", "aa", 1, nothing}, {"^a|b", "aab", 1, span{2, 3}}, {"$", "aa", 1, span{2, 2}}, {"$", "aa", 2, span{2, 2}}, {"a$", "aa", 1, span{1, 2}}, {"^*a", "aa", 1, span{1, 2}}, {"^$", "a", 1, nothing}, {"(^|a)b", "ab", 1, nothing}, {"^a?", "aa", 1, nothing},
		{`\^`, "a^", 0, span{1, 2}}, {`\$`, "a$", 0, span{1, 2}}, {"[$^]+", "a^$", 0, span{1, 3}},
	})
}

// P10.1: from each place, from below 0 and from beyond the end.
func TestFrom(t *testing.T) {
	const least, most = -1 << 63, 1<<63 - 1
	for at, want := range []span{{0, 1}, {2, 4}, {2, 4}, {3, 4}, nothing, nothing} {
		check(t, []found{{"a+", "abaab", at, want}})
	}
	for at := range 4 {
		check(t, []found{{"", "abc", at, span{at, at}}, {"x*", "abc", at, span{at, at}}, {".*", "abc", at, span{at, 3}}, {"c?$", "abc", at, span{min(max(at, 2), 3), 3}}})
	}
	for _, s := range []string{"", "abc"} {
		for _, p := range []string{"", "a", "a*", ".", "$", "^", "^$", "x|"} {
			for _, at := range []int{-1, -2, -100, least, len(s) + 1, len(s) + 2, 1 << 32, most} {
				check(t, []found{{p, s, at, nothing}})
			}
		}
	}
}

// P10.1: stars of what may be empty, and others within one another; none of them takes long.
func TestStars(t *testing.T) {
	long := strings.Repeat("a", 3000)
	check(t, []found{
		{"(a*)*b", "aaab", 0, span{0, 4}}, {"(a*)*", "b", 0, span{0, 0}}, {"(a*)*", "aab", 0, span{0, 2}}, {"(a*)+", "", 0, span{0, 0}}, {"(a?)*b", "aab", 0, span{0, 3}}, {"(|a)*", "aa", 0, span{0, 2}}, {"(a|)*", "aa", 0, span{0, 2}}, {"(|a)+", "aa", 0, span{0, 2}}, {"()*", "a", 0, span{0, 0}}, {"()+a", "a", 0, span{0, 1}}, {"(()*)*", "", 0, span{0, 0}}, {"(a*b*)*", "aabba", 0, span{0, 5}}, {"(a*b*)*c", "aabbac", 0, span{0, 6}}, {"((a*)+b?)*", "aabac", 0, span{0, 4}}, {"(^*)*a", "ba", 0, span{1, 2}}, {"($*)+", "b", 0, span{0, 0}}, {"(a*)?b", "cb", 0, span{1, 2}}, {"((a?)*)*$", "baa", 0, span{1, 3}},
		{"(a*)*b", long, 0, nothing}, {"(a*)*b", long + "b", 0, span{0, 3001}}, {"((a+)+)+b", long, 0, nothing}, {"(a|aa)+$", long + "b", 0, nothing}, {"(a|aa)+b", long + "b", 0, span{0, 3001}}, {"(.*)(.*)(.*)(.*)(.*)x", long, 0, nothing}, {"(a?)*a*(a*)*c|b", long + "b", 0, span{3000, 3001}},
		{strings.Repeat("a?", 100) + strings.Repeat("a", 100), long[:100], 0, span{0, 100}}, {strings.Repeat("a?", 100) + strings.Repeat("a", 100), long, 0, span{0, 200}}, {"(" + strings.Repeat("a?", 149) + ")", long, 0, span{0, 149}}, {"(" + strings.Repeat("a?", 148) + ")*b", long, 0, nothing}, {"a" + strings.Repeat("*", 299), long, 0, span{0, 3000}}, {strings.Repeat("(", 20) + "a" + strings.Repeat(")*", 20), long + "b", 0, span{0, 3000}},
		{strings.Repeat("a", 300), long, 0, span{0, 300}}, {strings.Repeat("a", 299) + "b", long + "b", 0, span{2701, 3001}}, {strings.Repeat(".", 300), long[:299], 0, nothing}, {strings.Repeat("a|", 150), "b", 0, span{0, 0}}, {strings.Repeat("|", 299) + "a", "a", 0, span{0, 1}},
	})
	// However many matches there are, a text is not gone through anew for each.
	checkMany(t, "a|a*b", strings.Repeat("a", 1<<17), 1)
	checkMany(t, "(a|b)*c|.", strings.Repeat("ab", 1<<16), 1)
	checkMany(t, "aa|(a|aa)*$b", strings.Repeat("a", 1<<17), 2)
	checkMany(t, "x*", strings.Repeat("a", 1<<17), 0)
}

// checkMany: matches of so many bytes, one behind the other; where they have none, at each place.
func checkMany(t *testing.T, pattern, s string, size int) {
	t.Helper()
	at := 0
	for from, to := range of(t, pattern).All(s) {
		if from != at || to != at+size {
			t.Fatalf("All of %q: %d, %d, want %d, %d", pattern, from, to, at, at+size)
		}
		at += max(size, 1)
	}
	if want := len(s) + 1 - min(size, 1); at != want {
		t.Errorf("All of %q came to %d of %d", pattern, at, want)
	}
}

// P10.1, P10.3: All, with empty matches, next to longer ones and at the end.
func TestAll(t *testing.T) {
	checkAll(t, []told{
		{"a", "", nil}, {"a", "bc", nil}, {"a", "a", []span{{0, 1}}}, {"a", "aa", []span{{0, 1}, {1, 2}}}, {"a", "abca", []span{{0, 1}, {3, 4}}}, {"aa", "aaaaa", []span{{0, 2}, {2, 4}}}, {"aba", "ababa", []span{{0, 3}}}, {"a+", "aabaa", []span{{0, 2}, {3, 5}}}, {".*", "ab", []span{{0, 2}}}, {".", "ab", []span{{0, 1}, {1, 2}}},
		{"", "", []span{{0, 0}}}, {"", "ab", []span{{0, 0}, {1, 1}, {2, 2}}}, {"x*", "ab", []span{{0, 0}, {1, 1}, {2, 2}}}, {"()", "a", []span{{0, 0}, {1, 1}}}, {"x?", "", []span{{0, 0}}},
		// An empty one isn't told where one ended, but where none did.
		{"a*", "a", []span{{0, 1}}}, {"a*", "ab", []span{{0, 1}, {2, 2}}}, {"a*", "ba", []span{{0, 0}, {1, 2}}}, {"a*", "bab", []span{{0, 0}, {1, 2}, {3, 3}}}, {"a*", "aabaa", []span{{0, 2}, {3, 5}}}, {"a*", "abba", []span{{0, 1}, {2, 2}, {3, 4}}}, {"a*", "bb", []span{{0, 0}, {1, 1}, {2, 2}}}, {"a?", "aab", []span{{0, 1}, {1, 2}, {3, 3}}}, {"a|", "ba", []span{{0, 0}, {1, 2}}}, {"|ab", "abab", []span{{0, 2}, {2, 4}}}, {"a*|b", "aabba", []span{{0, 2}, {2, 3}, {3, 4}, {4, 5}}}, {"b|a*", "ab", []span{{0, 1}, {1, 2}}}, {"(ab)*", "ababcab", []span{{0, 4}, {5, 7}}}, {"x*a?", "ab", []span{{0, 1}, {2, 2}}},
		// The beginning and the end.
		{"^", "ab", []span{{0, 0}}}, {"$", "ab", []span{{2, 2}}}, {"^|$", "ab", []span{{0, 0}, {2, 2}}}, {"^|$", "", []span{{0, 0}}}, {"^a", "aa", []span{{0, 1}}}, {"^a*", "aab", []span{{0, 2}}}, {"a$", "aa", []span{{1, 2}}}, {"a*$", "aa", []span{{0, 2}}}, {"a*$", "ba", []span{{1, 2}}}, {"b*$", "a", []span{{1, 1}}}, {"a|$", "ba", []span{{1, 2}}}, {"a|$", "ab", []span{{0, 1}, {2, 2}}}, {"^|a", "aa", []span{{0, 1}, {1, 2}}}, {"^|a", "ba", []span{{0, 0}, {1, 2}}}, {"$|b", "abb", []span{{1, 2}, {2, 3}}}, {"(^|b)a*", "aab", []span{{0, 2}, {2, 3}}},
		{"\n", "a\n\nb\n", []span{{1, 2}, {2, 3}, {4, 5}}}, {"[, ]+", "a, b,c", []span{{1, 3}, {4, 5}}}, {"[\x80-\xff]", "a\xc3\xa9", []span{{1, 2}, {2, 3}}},
	})
}

// P10.1: an iterator is gone through again, left early, and gone through within itself.
func TestIterator(t *testing.T) {
	p := of(t, "a*")
	want := []span{{0, 0}, {1, 3}, {4, 5}}
	it := p.All("baaca")
	for range 2 {
		if got := all(it); !slices.Equal(got, want) {
			t.Errorf("gone through: %v", got)
		}
		for n := range 4 {
			var got []span
			for from, to := range it {
				if len(got) == n {
					break
				}
				got = append(got, span{from, to})
			}
			if !slices.Equal(got, want[:n]) {
				t.Errorf("left behind %d: %v", n, got)
			}
		}
	}
	for from, to := range it {
		if got := all(it); !slices.Equal(got, want) {
			t.Errorf("gone through at %d, %d: %v", from, to, got)
		}
		// Other calls of it change nothing.
		p.Find("aaaa", 2)
		p.In("b")
		all(p.All("ab"))
	}
	if got := all(it); !slices.Equal(got, want) {
		t.Errorf("gone through at last: %v", got)
	}
}

// spoil changes all of a tree that can be changed.
func spoil(n regex.Node) {
	for i := range n.Kids {
		spoil(n.Kids[i])
		n.Kids[i] = regex.Node{Op: regex.One}
	}
}

// P2: no call changes a tree or keeps it, nor a text (K3).
func TestNothingKept(t *testing.T) {
	const pattern = "(a|b)*[^c]+d?$|^"
	n, _, _ := regex.Parse(pattern)
	before := regex.Print(n)
	p, e := match.Compile(n)
	if e != api.OK || regex.Print(n) != before {
		t.Errorf("Compile changed %s to %s, %d", before, regex.Print(n), e)
	}
	spoil(n)
	if got, want := all(p.All("cabxd")), all(of(t, pattern).All("cabxd")); !slices.Equal(got, want) {
		t.Errorf("behind a change of the tree: %v, want %v", got, want)
	}
	text := []byte("baaca")
	it := of(t, "a*").All(unsafe.String(&text[0], len(text)))
	copy(text, "aaaaa")
	if got := all(it); !slices.Equal(got, []span{{0, 0}, {1, 3}, {4, 5}}) {
		t.Errorf("behind a change of the text: %v", got)
	}
}

// P10.1: a tree with more than MaxStates nodes may be too big, and one with fewer isn't.
func TestStates(t *testing.T) {
	for _, kids := range []int{0, 1, 63, 64, 65, 128, 300, 1999} {
		a := regex.Node{Op: regex.One, Set: regex.Set{}.With('a')}
		p, e := match.Compile(regex.Node{Op: regex.Cat, Kids: slices.Repeat([]regex.Node{a}, kids)})
		if p == nil || e != api.OK {
			t.Fatalf("Compile of %d kids: %v, %d", kids, p, e)
		}
		s := "b" + strings.Repeat("a", kids)
		want := 1
		if kids == 0 {
			want = 0
		}
		if from, to, ok := p.Find(s, 0); from != want || to != want+kids || !ok {
			t.Errorf("Find of %d kids: %d, %d, %v", kids, from, to, ok)
		}
		if kids > 0 && p.In(s[:kids]) {
			t.Errorf("In of %d kids: in too few bytes", kids)
		}
	}
	n := regex.Node{Op: regex.Star, Kids: make([]regex.Node, 1)}
	n.Kids[0] = n // it stands in itself
	if p, e := match.Compile(n); p != nil || e != api.ErrBig {
		t.Errorf("Compile of a tree without an end: %v, %d", p, e)
	}
}
