package script_test

import (
	"reflect"
	"regexp"
	"slices"
	"strconv"
	"strings"
	"testing"

	"scribe/api"
	"scribe/script"
)

// isScript: does Parse answer just these steps? A list that is nil and an empty one differ here.
func isScript(t *testing.T, text string, want []script.Step) {
	t.Helper()
	l, at, e := script.Parse(text)
	if e != api.OK || at != 0 || !slices.EqualFunc(l, want, same) {
		t.Errorf("Parse(%.80q): %+v, %d at %d, want %+v", text, l, e, at, want)
	}
}

func same(x, y script.Step) bool {
	return reflect.DeepEqual(x, y)
}

// isNone: does Parse answer an error at this line, and no steps?
func isNone(t *testing.T, text string, at int, e api.Errno) {
	t.Helper()
	l, got, err := script.Parse(text)
	if err != e || got != at || len(l) > 0 {
		t.Errorf("Parse(%.80q): %d steps, %d at %d, want %d at %d", text, len(l), err, got, e, at)
	}
}

// P20.1: the chapter's example.
func TestExampleParse(t *testing.T) {
	isScript(t, "run 5\ncrash names 1 2\nstart", []script.Step{{Kind: 1, N: 5}, {Kind: 4, Names: true, Keeps: []int{1, 2}}, {Kind: 2}})
	isNone(t, "run", 1, api.ErrForm)
}

// P20.1: lines that are steps, each alone, in front of others, and behind others.
func TestSteps(t *testing.T) {
	for line, want := range map[string]script.Step{
		"run 0": {Kind: script.Run}, "run 1": {Kind: script.Run, N: 1}, "run -1": {Kind: script.Run, N: -1}, "run 999999": {Kind: script.Run, N: 999999}, "run 1000000": {Kind: script.Run, N: 1000000},
		"start": {Kind: script.Start},
		"arm 0": {Kind: script.Arm}, "arm 30": {Kind: script.Arm, N: 30}, "arm -1": {Kind: script.Arm, N: -1}, "arm 1000000": {Kind: script.Arm, N: script.MaxNumber},
		"quota 0": {Kind: script.Quota}, "quota 10": {Kind: script.Quota, N: 10}, "quota -1": {Kind: script.Quota, N: -1}, "quota 1000000": {Kind: script.Quota, N: script.MaxNumber},
		"crash": {Kind: script.Crash}, "crash names": {Kind: script.Crash, Names: true},
		"crash 0": {Kind: script.Crash, Keeps: []int{0}}, "crash -1": {Kind: script.Crash, Keeps: []int{-1}}, "crash 1 1000000 -1 0 1": {Kind: script.Crash, Keeps: []int{1, 1000000, -1, 0, 1}},
		"crash names 0": {Kind: script.Crash, Names: true, Keeps: []int{0}}, "crash names 3 -1 2": {Kind: script.Crash, Names: true, Keeps: []int{3, -1, 2}},
		"spoil ": {Kind: script.Spoil}, "spoil a": {Kind: script.Spoil, Text: "a"}, "spoil  ": {Kind: script.Spoil, Text: " "}, "spoil  a  b ": {Kind: script.Spoil, Text: " a  b "},
		"spoil # a": {Kind: script.Spoil, Text: "# a"}, "spoil run 1": {Kind: script.Spoil, Text: "run 1"}, "spoil \x00\xff\t\r\xc3ü": {Kind: script.Spoil, Text: "\x00\xff\t\r\xc3ü"},
	} {
		isScript(t, line, []script.Step{want})
		isScript(t, line+"\n", []script.Step{want})
		isScript(t, "\n#"+line+"\n"+line+"\n\nstart", []script.Step{want, {Kind: script.Start}})
		isScript(t, "arm 7\n"+line+"\n#"+line, []script.Step{{Kind: script.Arm, N: 7}, want})
	}
}

// P20.1: texts without a step.
func TestNoSteps(t *testing.T) {
	for _, text := range []string{"", "\n", "\n\n\n", "#", "#\n", "\n# run\n#\n", "#run 1"} {
		isScript(t, text, nil)
	}
}

// wrongNumbers are none.
func wrongNumbers() []string {
	return []string{"", "-2", "-10", "-0", "+1", "+0", "--1", "-", "00", "01", "-01", "1000001", "1000000000", "9223372036854775807", "9223372036854775808", "18446744073709551617", "-9223372036854775809", strings.Repeat("1", 1000), strings.Repeat("0", 50) + "1",
		"a", "1a", "a1", "0x1", "1e3", "1.0", "1_0", "1,000", "١", "１", "²", "1\r", "1\t", "\t1", "1\x00", "names", "1 ", " 1", "#", "1#"}
}

// P20.1: lines that are no steps, each alone and behind others.
func TestNoStep(t *testing.T) {
	lines := []string{" ", "  ", "\t", "\r", "\x00", "fly", "Run 1", "RUN 1", "Start", "runs 1", "ru 1", "run1", "run\t1", "run\r", "run", "run ", "run  1", " run 1", "run 1 ", "run 1 2", "run 1 #", "run #", "run -",
		"start ", "start 1", " start", "start #", "start\r", "\tstart", "starts", "start start", "arm", "arm ", "arm  1", "arm 1 2", "arm names", "arm 1\r", " arm 1", "quota", "quota ", "quota 1 1", "quota  1", "Quota 1", "quotas 1",
		"crash ", "crash  ", " crash", "crash\r", "crash  1", "crash 1 ", "crash 1  2", "crash names ", "crash names  1", "crash  names", "crash names names", "crash names names 1", "crash 1 names", "crash names 1 names", "crash 1 2 names 3", "crash Names", "crash name", "crash namess", "crash names1", "crash1", "crashnames", "Crash", "crash #", "crash 1 # 2",
		"spoil", "spoil\t", "spoil\ta", "spoils a", "spoila", " spoil a", "Spoil a", "SPOIL a", "a spoil ", "names", "names 1", "1", "-1", "1 run", "ｒun 1", "rün 1", "run\u00a01", ";", "run 1;start"}
	for _, number := range wrongNumbers() {
		for _, front := range []string{"run ", "arm ", "quota ", "crash 1 ", "crash names 1 "} {
			lines = append(lines, front+number)
		}
	}
	for _, line := range lines {
		isNone(t, line, 1, api.ErrForm)
		isNone(t, line+"\n", 1, api.ErrForm)
		isNone(t, line+"\nfly\n", 1, api.ErrForm)
		isNone(t, "start\n\n# none\nrun 1\n"+line+"\nstart", 5, api.ErrForm)
		isNone(t, "\n"+line, 2, api.ErrForm)
	}
}

// rows: so many steps, with an empty line and a note ahead of each tenth one.
func rows(n int) string {
	var s strings.Builder
	for i := range n {
		if i%10 == 9 {
			s.WriteString("\n# the next one is number " + strconv.Itoa(i+1) + "\n")
		}
		s.WriteString("arm " + strconv.Itoa(i) + "\n")
	}
	return s.String()
}

// P20.1: the 201st step, and what is no step around it: the first of these is told.
func TestTooManySteps(t *testing.T) {
	l, at, e := script.Parse(rows(script.MaxLines))
	if e != api.OK || at != 0 || len(l) != 200 || l[199].N != 199 {
		t.Errorf("200 steps: %d, %d at %d", len(l), e, at)
	}
	// 200 steps and 40 lines that are none.
	const last = 240
	full := rows(script.MaxLines)
	for _, behind := range []string{"", "\n", "\n\n#\n# fly", "#run 1\n"} {
		if l, at, e := script.Parse(full + behind); e != api.OK || at != 0 || len(l) != 200 {
			t.Errorf("200 steps and %q: %d, %d at %d", behind, len(l), e, at)
		}
	}
	for _, x := range []struct {
		behind string
		at     int
		e      api.Errno
	}{
		{"start", last + 1, api.ErrBig}, {"start\n", last + 1, api.ErrBig}, {"spoil ", last + 1, api.ErrBig}, {"\n#\nstart", last + 3, api.ErrBig}, {"start\nfly", last + 1, api.ErrBig}, {"\n\nstart\nstart\nfly\n", last + 3, api.ErrBig},
		{"fly", last + 1, api.ErrForm}, {"fly\nstart", last + 1, api.ErrForm}, {" ", last + 1, api.ErrForm}, {"\n#\nrun\nstart", last + 3, api.ErrForm}, {"start ", last + 1, api.ErrForm}, {"start \nstart", last + 1, api.ErrForm},
	} {
		isNone(t, full+x.behind, x.at, x.e)
	}
	for _, at := range []int{1, 2, 11, 120, 239, 240} {
		lines := strings.SplitAfter(full+"start\nstart\n", "\n")
		lines = slices.Insert(lines, at-1, "fly\n")
		isNone(t, strings.Join(lines, ""), at, api.ErrForm)
	}
	isNone(t, strings.Repeat("start\n", 100000), 201, api.ErrBig)
	isNone(t, strings.Repeat("start\n", 200)+strings.Repeat("\n", 3000)+"#\nstart\n", 3202, api.ErrBig)
}

// P2: neither a list of an answer nor its spare room is another one's (K3).
func TestOwnKeeps(t *testing.T) {
	const text = "crash 1 2 3\ncrash 4 5\ncrash names 6"
	l, _, _ := script.Parse(text)
	for i := range l {
		whole := l[i].Keeps[:cap(l[i].Keeps)]
		for k := range whole {
			whole[k] = 99
		}
		l[i].Kind = 9
		if i+1 < len(l) && slices.Contains(l[i+1].Keeps, 99) {
			t.Errorf("step %d is changed by the one ahead of it", i+1)
		}
	}
	isScript(t, text, []script.Step{{Kind: 4, Keeps: []int{1, 2, 3}}, {Kind: 4, Keeps: []int{4, 5}}, {Kind: 4, Names: true, Keeps: []int{6}}})
}

// number and grammar: the chapter's words of a line that is a step.
const number = `(-1|0|[1-9][0-9]{0,5}|1000000)`

var grammar = regexp.MustCompile(`^(?s:(run|arm|quota) ` + number + `|start|crash( names)?(( ` + number + `)*)|spoil (.*))$`)

// read: what Parse is to answer of a text, by the grammar.
func read(text string) ([]script.Step, int, api.Errno) {
	var l []script.Step
	kinds := map[string]int{"run": 1, "arm": 3, "quota": 5}
	for _, x := range cutByHand(text) {
		m := grammar.FindStringSubmatch(x.line)
		if m == nil {
			return nil, x.number, api.ErrForm
		}
		if len(l) == 200 {
			return nil, x.number, api.ErrBig
		}
		s := script.Step{Kind: kinds[m[1]]}
		switch {
		case m[1] != "":
			s.N, _ = strconv.Atoi(m[2])
		case x.line == "start":
			s.Kind = 2
		case strings.HasPrefix(x.line, "crash"):
			s.Kind, s.Names = 4, m[3] != ""
			for _, word := range strings.Fields(m[4]) {
				n, _ := strconv.Atoi(word)
				s.Keeps = append(s.Keeps, n)
			}
		default:
			s.Kind, s.Text = 6, m[7]
		}
		l = append(l, s)
	}
	return l, 0, api.OK
}

// P20.1: all rows of few words, with one blank between them.
func TestRowsOfWords(t *testing.T) {
	words := []string{"run", "start", "arm", "crash", "quota", "spoil", "names", "0", "-1", "7", "01", "1000000", "1000001", "", "#", "\n", "x"}
	n := len(words)
	right := 0
	for row := range n * n * n * n {
		text := words[row%n] + " " + words[row/n%n] + " " + words[row/n/n%n] + " " + words[row/n/n/n]
		for range 4 {
			l, at, e := script.Parse(text)
			want, place, err := read(text)
			if e != err || at != place || !slices.EqualFunc(l, want, same) {
				t.Fatalf("Parse(%q): %+v, %d at %d, want %+v, %d at %d", text, l, e, at, want, err, place)
			}
			if e == api.OK {
				right++
			}
			cut := strings.LastIndex(text, " ")
			text = text[:max(cut, 0)]
		}
	}
	if right < 3000 {
		t.Errorf("%d were right", right)
	}
}

// numbers tells numbers of a rule, each of them from 0 on and below another one.
type numbers uint64

func (n *numbers) next(below int) int {
	*n = *n*6364136223846793005 + 1442695040888963407
	return int(uint64(*n)>>33) % below
}

// one of some.
func one[T any](n *numbers, l ...T) T {
	return l[n.next(len(l))]
}

// number: one of a script, right as a rule.
func (n *numbers) number() string {
	if n.next(500) == 0 {
		return one(n, "-2", "01", "1000001", "", "+1", "9223372036854775807")
	}
	return strconv.Itoa(one(n, -1, 0, n.next(10), n.next(2000), script.MaxNumber))
}

// line: a line of any kind, right as a rule.
func (n *numbers) line() string {
	switch n.next(9) {
	case 0, 1:
		return one(n, "run ", "arm ", "quota ") + n.number()
	case 2:
		return "start"
	case 3, 4:
		s := one(n, "crash", "crash names")
		for range n.next(5) {
			s += " " + n.number()
		}
		return s
	case 5:
		return "spoil " + strings.Repeat(string(rune(n.next(300))), n.next(4)) + one(n, "", " ", "#", "a b")
	case 6:
		return "#" + strings.Repeat("run 1 ", n.next(3))
	case 7:
		return ""
	}
	if n.next(30) == 0 {
		return one(n, "fly", "start ", " start")
	}
	return one(n, "start", "crash", "crash names 0", "spoil ", "run -1")
}

// P20.1: long scripts, with a byte changed here and there.
func TestAnyText(t *testing.T) {
	seen := map[api.Errno]int{}
	for seed := range numbers(4000) {
		n := seed
		var lines []string
		for range n.next(30) + n.next(2)*n.next(300) {
			lines = append(lines, n.line())
		}
		text := []byte(strings.Join(lines, "\n"))
		for range n.next(3) {
			if len(text) > 0 {
				text[n.next(len(text))] = "\n #-0129anrsxX\r"[n.next(15)]
			}
		}
		l, at, e := script.Parse(string(text))
		want, place, err := read(string(text))
		if e != err || at != place || !slices.EqualFunc(l, want, same) {
			t.Fatalf("Parse(%q): %+v, %d at %d, want %+v, %d at %d", text, l, e, at, want, err, place)
		}
		seen[e]++
	}
	if seen[api.OK] < 100 || seen[api.ErrForm] < 100 || seen[api.ErrBig] < 20 {
		t.Errorf("few of one kind: %v", seen)
	}
}
