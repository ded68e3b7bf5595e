package script_test

import (
	"slices"
	"testing"

	"scribe/api"
	"scribe/script"
)

// P20.1: each kind; steps that are none say nothing; nor do fields that a step of its kind doesn't have.
func TestFormat(t *testing.T) {
	for _, x := range []struct {
		l    []script.Step
		want string
	}{
		{nil, ""},
		{[]script.Step{}, ""},
		{[]script.Step{{Kind: 1}}, "run 0\n"},
		{[]script.Step{{Kind: 1, N: 1000000}}, "run 1000000\n"},
		{[]script.Step{{Kind: 2}}, "start\n"},
		{[]script.Step{{Kind: 3, N: -1}}, "arm -1\n"},
		{[]script.Step{{Kind: 4}}, "crash\n"},
		{[]script.Step{{Kind: 4, Keeps: []int{}}}, "crash\n"},
		{[]script.Step{{Kind: 4, Names: true}}, "crash names\n"},
		{[]script.Step{{Kind: 4, Keeps: []int{3, -1, 0}}}, "crash 3 -1 0\n"},
		{[]script.Step{{Kind: 4, Names: true, Keeps: []int{1, 20}}}, "crash names 1 20\n"},
		{[]script.Step{{Kind: 5, N: 70}}, "quota 70\n"},
		{[]script.Step{{Kind: 6}}, "spoil \n"},
		{[]script.Step{{Kind: 6, Text: " # a\x00\xff "}}, "spoil  # a\x00\xff \n"},
		{[]script.Step{{Kind: 0}}, ""},
		{[]script.Step{{Kind: 7, N: 1, Text: "a"}, {Kind: -1, Names: true}, {Kind: 100}, {}}, ""},
		{[]script.Step{{}, {Kind: 2}, {Kind: 7}, {Kind: 1, N: 3}, {Kind: -6}}, "start\nrun 3\n"},
		{[]script.Step{{Kind: 1, N: 5, Keeps: []int{1}, Names: true, Text: "a"}, {Kind: 2, N: 5, Keeps: []int{1}, Names: true, Text: "a"}, {Kind: 3, N: 5, Keeps: []int{1}, Names: true, Text: "a"}}, "run 5\nstart\narm 5\n"},
		{[]script.Step{{Kind: 4, N: 5, Text: "a"}, {Kind: 4, N: 5, Keeps: []int{1}, Text: "a"}, {Kind: 5, N: 5, Keeps: []int{1}, Names: true, Text: "a"}, {Kind: 6, N: 5, Keeps: []int{1}, Names: true, Text: "a"}}, "crash\ncrash 1\nquota 5\nspoil a\n"},
		{[]script.Step{{Kind: 2}, {Kind: 1, N: 5}, {Kind: 3, N: 9}, {Kind: 4, Names: true, Keeps: []int{2}}, {Kind: 5}, {Kind: 6, Text: "x y"}, {Kind: 2}}, "start\nrun 5\narm 9\ncrash names 2\nquota 0\nspoil x y\nstart\n"},
	} {
		if got := script.Format(x.l); got != x.want {
			t.Errorf("Format(%+v): %q, want %q", x.l, got, x.want)
		}
	}
	// A list may be longer than a script.
	if got := len(script.Format(make([]script.Step, 500))) + len(script.Format(slices.Repeat([]script.Step{{Kind: 2}}, 500))); got != 500*len("start\n") {
		t.Errorf("500 steps: %d bytes", got)
	}
}

// P20.1: what Parse answers comes out of Format and Parse again; a text of lines that are steps comes out of Format as it is, and one with others without them.
func TestThereAndBack(t *testing.T) {
	const text = "run -1\nstart\narm 0\ncrash\ncrash names\ncrash 1 2\ncrash names -1 1000000\nquota 7\nspoil \nspoil  # a \n"
	l, _, e := script.Parse(text)
	if got := script.Format(l); e != api.OK || got != text {
		t.Errorf("Format: %q, %d", got, e)
	}
	l, _, _ = script.Parse("#\n\nrun 5\n# start\n\nstart")
	if got := script.Format(l); got != "run 5\nstart\n" {
		t.Errorf("Format: %q", got)
	}
	right := 0
	for seed := range numbers(5000) {
		n := seed
		lines := ""
		for range n.next(20) {
			lines += n.line() + "\n"
		}
		l, _, e := script.Parse(lines)
		if e != api.OK {
			continue
		}
		right++
		isScript(t, script.Format(l), l)
		want := ""
		for _, x := range cutByHand(lines) {
			want += x.line + "\n"
		}
		if got := script.Format(l); got != want {
			t.Fatalf("Format: %q, want %q", got, want)
		}
	}
	if right < 1000 {
		t.Errorf("%d were right", right)
	}
}

// P2: Format changes nothing that it is handed, nor what lies behind it (K3).
func TestFormatChangesNothing(t *testing.T) {
	keeps := []int{1, 2, 3, 4}
	l := []script.Step{{Kind: 4, Names: true, Keeps: keeps[:2]}, {Kind: 9, Text: "a"}, {Kind: 6, Text: "b"}, {Kind: 2}}
	if got := script.Format(l[:3]); got != "crash names 1 2\nspoil b\n" {
		t.Errorf("Format: %q", got)
	}
	if !slices.Equal(keeps, []int{1, 2, 3, 4}) || !slices.EqualFunc(l, []script.Step{{Kind: 4, Names: true, Keeps: []int{1, 2}}, {Kind: 9, Text: "a"}, {Kind: 6, Text: "b"}, {Kind: 2}}, same) {
		t.Errorf("changed: %v, %+v", keeps, l)
	}
}
