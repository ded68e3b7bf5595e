package lex_test

import (
	"regexp"
	"slices"
	"strings"
	"testing"

	"scribe/api"
	"scribe/lex"
)

// The chapter's words as patterns. What stands between two signs may be cut off: model sees what comes there.
var (
	between  = regexp.MustCompile(`^(?:[ \t\r]|\\\n|#[^\n]*)*`)
	number   = regexp.MustCompile(`^(?:[0-9]+(?:\.[0-9]*)?|\.[0-9]+)`)
	name     = regexp.MustCompile(`^[a-zA-Z_][a-zA-Z_0-9]*`)
	inString = regexp.MustCompile(`^"(?:[^"\\\n]|\\[nt"\\/])*`)
	inRegex  = regexp.MustCompile(`^/(?:[^/\\\n]|\\[^\n])*`)
	value    = regexp.MustCompile(`^(?:num:|str:|re:|name:|builtin:length |sign:(?:\)|\]|\+\+|--) )`)

	stringText = strings.NewReplacer(`\n`, "\n", `\t`, "\t", `\"`, `"`, `\\`, `\`, `\/`, "/")
	regexText  = strings.NewReplacer(`\/`, "/", `\\`, `\\`)
)

// listed: is a word one of a list's?
func listed(list, word string) bool {
	return slices.Contains(strings.Fields(list), word)
}

// modelNext: the token that a text begins with, and how many bytes it takes; none, if no kind is told: then how many bytes ahead of the wrong place.
func modelNext(rest string, slashBegins bool) (int, string, int) {
	quoted := func(kind int, pattern *regexp.Regexp, texts *strings.Replacer) (int, string, int) {
		in := pattern.FindString(rest)
		switch {
		case strings.HasPrefix(rest[len(in):], in[:1]):
			return kind, texts.Replace(in[1:]), len(in) + 1
		case strings.HasPrefix(rest[len(in):], `\`):
			return -1, "", len(in)
		}
		return -1, "", 0
	}
	switch {
	case rest[0] == '\n':
		return lex.Newline, "", 1
	case rest[0] == '"':
		return quoted(lex.String, inString, stringText)
	case rest[0] == '/' && slashBegins:
		return quoted(lex.Regex, inRegex, regexText)
	}
	if s := number.FindString(rest); s != "" {
		return lex.Number, s, len(s)
	}
	if s := name.FindString(rest); s != "" {
		kind := lex.Name
		switch {
		case listed(words, s):
			kind = lex.Word
		case listed(builtins, s):
			kind = lex.Builtin
		case listed(banned, s):
			kind = lex.Banned
		case strings.HasPrefix(rest[len(s):], "("):
			kind = lex.Func
		}
		return kind, s, len(s)
	}
	for _, s := range strings.Fields(signs) { // the longer ones come first there
		if strings.HasPrefix(rest, s) {
			return lex.Sign, s, len(s)
		}
	}
	return -1, "", 0
}

// model is the chapter's words on Lex.
func model(s string) ([]lex.Token, int, api.Errno) {
	if len(s) > 4000 {
		return nil, 0, api.ErrBig
	}
	var l []lex.Token
	for at := 0; ; {
		at += len(between.FindString(s[at:]))
		if at == len(s) {
			return append(l, lex.Token{Kind: lex.End, At: at}), 0, api.OK
		}
		behindValue := len(l) > 0 && value.MatchString(lex.Print(l[len(l)-1:]))
		kind, text, size := modelNext(s[at:], !behindValue)
		if kind < 0 {
			return nil, at + size, api.ErrSyntax
		}
		l = append(l, lex.Token{Kind: kind, Text: text, At: at})
		at += size
	}
}

func checkModel(t *testing.T, s string) {
	t.Helper()
	want, wantAt, wantE := model(s)
	if l, at, e := lex.Lex(s); e != wantE || at != wantAt || !slices.Equal(l, want) {
		t.Fatalf("Lex(%q): %v, %d at %d, want %v, %d at %d", s, l, e, at, want, wantE, wantAt)
	}
}

// each goes through all texts of so many of the signs.
func each(signs string, n int, do func(string)) {
	text := make([]byte, n)
	var fill func(int)
	fill = func(i int) {
		if i == n {
			do(string(text))
			return
		}
		for k := range len(signs) {
			text[i] = signs[k]
			fill(i + 1)
		}
	}
	fill(0)
}

// P11.1: each short text of the bytes that matter to one another.
func TestEachText(t *testing.T) {
	for n := range 6 {
		each("\"/\\\nn#a ", n, func(s string) { checkModel(t, s) })
		each("1.a( +=/_", n, func(s string) { checkModel(t, s) })
	}
	for n := range 5 {
		each("+-*/%=<>!&|~)a\\\n", n, func(s string) { checkModel(t, s) })
	}
	for n := range 3 {
		var all []byte
		for c := range 256 {
			all = append(all, byte(c))
		}
		each(string(all), n, func(s string) { checkModel(t, s) })
	}
}

// draws are numbers of a rule, so that each run has the same ones.
type draws uint64

func (d *draws) next(below int) int {
	*d = *d*6364136223846793005 + 1442695040888963407
	return int(uint64(*d)>>33) % below
}

// pick: so many of some texts, one behind the other.
func (d *draws) pick(texts []string, n int) string {
	var b strings.Builder
	for range n {
		b.WriteString(texts[d.next(len(texts))])
	}
	return b.String()
}

// P11.1: long texts of all that tokens are made of, and of all bytes.
func TestLongTexts(t *testing.T) {
	var d draws
	var bytes []string
	for c := range 256 {
		bytes = append(bytes, one(c))
	}
	whole := strings.Fields(words + " " + builtins + " " + banned + " " + signs + ` "a\tb" /c\/d/ ( ( ) ) 1 1.5 .5 1. f( x y_1 "" #c`)
	whole = append(whole, " ", " ", " ", "\t", "\r", "\n", "\n", "\\\n", "# d\n", `"#"`)
	broken := append(slices.Clone(whole), `"`, "/", `\`, "&", ".", "@", `\n`, "\xff")
	right := 0
	for range 20000 {
		s := d.pick(whole, d.next(30))
		checkModel(t, s)
		if _, _, e := lex.Lex(s); e == api.OK {
			right++
		}
		checkModel(t, d.pick(broken, d.next(30)))
		checkModel(t, `"`+d.pick(bytes, d.next(8))+`"`+d.pick(bytes, d.next(3)))
		checkModel(t, d.pick(bytes, d.next(8)))
		if d.next(100) == 0 {
			checkModel(t, d.pick(whole, d.next(1500)))
		}
	}
	if right < 3000 {
		t.Errorf("only %d texts have tokens", right)
	}
}

// made is a token as a text, and what is told of it.
type made struct {
	text string
	want lex.Token
}

// madeTokens: so many, of all kinds; a slash divides, where it doesn't begin a regex.
func (d *draws) madeTokens(n int) []made {
	var l []made
	add := func(text string, kind int, want string) {
		l = append(l, made{text, lex.Token{Kind: kind, Text: want}})
	}
	for range n {
		slash := len(l) == 0 || !value.MatchString(lex.Print([]lex.Token{l[len(l)-1].want}))
		switch d.next(10) {
		case 0:
			add("\n", lex.Newline, "")
		case 1:
			s := d.pick([]string{"0", "17", "9."}, 1) + d.pick([]string{"", "5", "00"}, 1)
			add(s, lex.Number, s)
		case 2:
			s := d.pick([]string{"a", `\n`, `\\`, `\"`, `\/`, " ", "#", "/", "\xff"}, d.next(5))
			add(`"`+s+`"`, lex.String, stringText.Replace(s))
		case 3:
			if slash {
				s := d.pick([]string{"a", `\n`, `\\`, `\"`, `\/`, " ", "#", `"`, "="}, d.next(5))
				add("/"+s+"/", lex.Regex, regexText.Replace(s))
			} else {
				add("/", lex.Sign, "/")
			}
		case 4:
			s := d.pick([]string{"x", "y_1", "_", "BEGINS", "f"}, 1)
			add(s, lex.Name, s)
		case 5:
			s := d.pick(strings.Fields(words), 1)
			add(s, lex.Word, s)
		case 6:
			s := d.pick(strings.Fields(builtins), 1)
			add(s, lex.Builtin, s)
		case 7:
			s := d.pick(strings.Fields(banned), 1)
			add(s, lex.Banned, s)
		case 8:
			s := d.pick([]string{"f", "_g2"}, 1)
			add(s, lex.Func, s)
			add("(", lex.Sign, "(")
		default:
			s := d.pick(strings.Fields(signs), 1)
			if !slash || s[0] != '/' {
				add(s, lex.Sign, s)
			}
		}
	}
	return l
}

// written: tokens as a text, with something between them, but for a Func and its bracket, and the tokens with their places.
func (d *draws) written(l []made, between []string) (string, []lex.Token) {
	var b strings.Builder
	var tokens []lex.Token
	for i, x := range l {
		if i == 0 || l[i-1].want.Kind != lex.Func {
			b.WriteString(d.pick(between, 1))
		}
		if x.want.Kind == lex.Newline && d.next(2) == 0 {
			b.WriteString(d.pick([]string{"#", "# a", `#"/\`, "#\xff#"}, 1))
		}
		x.want.At = b.Len()
		b.WriteString(x.text)
		tokens = append(tokens, x.want)
	}
	b.WriteString(d.pick(between, 1) + d.pick([]string{"", "", "#", "# a\\"}, 1))
	return b.String(), append(tokens, lex.Token{Kind: lex.End, At: b.Len()})
}

// P11.1, P11.2: tokens of which a text is made, with each thing between them.
func TestMadeTexts(t *testing.T) {
	var d draws
	blanks := []string{" ", "\t", "\r", "\\\n", "  ", " \t\r", "\\\n\\\n", " \\\n"}
	for range 30000 {
		s, want := d.written(d.madeTokens(d.next(20)), blanks)
		l, at, e := lex.Lex(s)
		if e != api.OK || at != 0 || !slices.Equal(l, want) {
			t.Fatalf("Lex(%q): %v, %d at %d, want %v", s, l, e, at, want)
		}
		checkPlaces(t, s, l)
	}
}

// alike: are they the same tokens, but for their places?
func alike(l, m []lex.Token) bool {
	return slices.EqualFunc(l, m, func(a, b lex.Token) bool { return a.Kind == b.Kind && a.Text == b.Text })
}

// P11.2: blanks and comments between two tokens of a text, where none stood or some, change nothing but places.
func TestBlanksChangeNothing(t *testing.T) {
	var d draws
	sources := strings.Fields(words + " " + builtins + " " + banned + " " + signs + ` "a\tb" /c/ f(x) (1.5) .5 1. x a[1] i++ -- ;;`)
	sources = append(sources, " ", "\n", "\n")
	right := 0
	for range 20000 {
		s := d.pick(sources, d.next(12))
		l, _, e := lex.Lex(s)
		if e != api.OK {
			continue
		}
		right++
		for i, x := range l {
			blanks := []string{" ", "\t", "\r", "\\\n", " \\\n\t"}
			if x.Kind == lex.Newline || x.Kind == lex.End {
				blanks = append(blanks, "#", ` # "/`, "#\\")
			}
			if i > 0 && l[i-1].Kind == lex.Func {
				continue // it is one, if ( stands right behind
			}
			for _, b := range blanks {
				more := s[:x.At] + b + s[x.At:]
				m, _, e := lex.Lex(more)
				if e != api.OK || !alike(l, m) || m[i].At != x.At+len(b) || !slices.Equal(m[:i], l[:i]) {
					t.Fatalf("Lex(%q): %v, %d; Lex(%q): %v", s, l, e, more, m)
				}
			}
		}
	}
	if right < 5000 {
		t.Errorf("only %d texts", right)
	}
}

// P11.3: two texts with a byte 10 between have the tokens of both.
func TestTwoTexts(t *testing.T) {
	var d draws
	sources := strings.Fields(words + " " + builtins + " " + banned + " " + signs + ` "a\tb" /c/ f( x 1 1.5 ( ) # #" /`)
	sources = append(sources, " ", " ", "\n", "\\\n")
	both := 0
	for range 60000 {
		s, other := d.pick(sources, d.next(8)), d.pick(sources, d.next(8))
		l, _, e := lex.Lex(s)
		m, _, f := lex.Lex(other)
		if e != api.OK || f != api.OK {
			continue
		}
		both++
		want := append(l[:len(l)-1:len(l)-1], lex.Token{Kind: lex.Newline, At: len(s)})
		for _, x := range m {
			x.At += len(s) + 1
			want = append(want, x)
		}
		if got, _, e := lex.Lex(s + "\n" + other); e != api.OK || !slices.Equal(got, want) {
			t.Fatalf("Lex(%q): %v, %d, want %v", s+"\n"+other, got, e, want)
		}
	}
	if both < 10000 {
		t.Errorf("only %d pairs", both)
	}
}
