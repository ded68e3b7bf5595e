package script_test

import (
	"testing"

	"scribe/api"
	"scribe/script"
)

// P20.2: a run that was never broken off, in one piece and step by step: as the machine's, whose output lies in memory.
func TestUnbroken(t *testing.T) {
	each(t, large(), func(t *testing.T, x plan, l []moment) {
		for _, interval := range intervals(l) {
			c := x.watch(t, l, interval)
			c.do(script.Step{Kind: script.Start})
			c.do(script.Step{Kind: script.Run, N: enough})
			c.end()
			if c.w.Done != len(l)-1 || c.w.Starts != 2 {
				t.Fatalf("%q: %d steps in %d starts", x.source, c.w.Done, c.w.Starts)
			}
			if c = x.watch(t, l, interval); interval == 1 {
				continue
			}
			c.do(script.Step{Kind: script.Start})
			for range l {
				c.do(script.Step{Kind: script.Run, N: 1})
			}
			c.end()
		}
	})
}

// P20.2: the disk dies at each deed of a run, and keeps one thing or another.
func TestEachDeed(t *testing.T) {
	each(t, small(), func(t *testing.T, x plan, l []moment) {
		for _, interval := range intervals(l) {
			for i, keep := range keeps() {
				for arm := 0; ; arm++ {
					c := x.watch(t, l, interval)
					c.do(script.Step{Kind: script.Arm, N: arm})
					if c.do(script.Step{Kind: script.Start}); c.runs {
						c.do(script.Step{Kind: script.Run, N: enough})
					}
					died := c.dead
					if i > 0 {
						c.do(script.Step{Kind: script.Crash, Keeps: keep, Names: (i+arm)%2 == 0})
					}
					c.end()
					if !died {
						break
					}
				}
			}
		}
	})
}

// P20.2: it dies at any two deeds, one behind the other.
func TestTwoDeeds(t *testing.T) {
	each(t, small()[:4], func(t *testing.T, x plan, l []moment) {
		kept := keeps()
		for _, interval := range []int{5, 7, len(l)} {
			for arms := range 40 * 40 {
				c := x.watch(t, l, interval)
				for turn, arm := range []int{arms / 40, arms % 40} {
					c.do(script.Step{Kind: script.Arm, N: arm})
					if c.do(script.Step{Kind: script.Start}); c.runs {
						c.do(script.Step{Kind: script.Run, N: enough})
					}
					c.do(script.Step{Kind: script.Crash, Keeps: kept[(arms+turn)%len(kept)], Names: arms/7%2 == turn})
				}
				c.end()
			}
		}
	})
}

// P20.2: behind each number of steps a crash, though the disk lives: the job goes on at the last checkpoint, just there.
func TestEachStep(t *testing.T) {
	each(t, large(), func(t *testing.T, x plan, l []moment) {
		apart := 1 + len(l)/60
		for _, interval := range intervals(l) {
			for at := 0; at < len(l); at += apart {
				keep := keeps()[at/apart%6]
				c := x.watch(t, l, interval)
				c.do(script.Step{Kind: script.Start})
				c.do(script.Step{Kind: script.Run, N: at})
				c.do(script.Step{Kind: script.Crash, Keeps: keep, Names: at/apart%4 < 2})
				want := at - at%interval
				if at == len(l)-1 {
					want = at
				}
				if r := c.do(script.Step{Kind: script.Start}); r.Steps != want {
					t.Fatalf("%q, interval %d: behind %d steps it goes on at %d", x.source, interval, at, r.Steps)
				}
				c.end()
			}
		}
	})
}

// P20.2, P6: each quota from 0 up to what the run needs.
func TestEachQuota(t *testing.T) {
	each(t, small(), func(t *testing.T, x plan, l []moment) {
		for i, interval := range intervals(l) {
			for quota := 0; ; quota++ {
				c := x.watch(t, l, interval)
				c.do(script.Step{Kind: script.Quota, N: quota})
				r := c.do(script.Step{Kind: script.Start})
				if c.runs {
					r = c.do(script.Step{Kind: script.Run, N: enough})
				}
				if (quota+i)%3 == 0 {
					c.do(script.Step{Kind: script.Crash, Keeps: keeps()[quota%6], Names: quota%2 == 0})
				}
				// With as little room it comes no further.
				if again := c.do(script.Step{Kind: script.Start}); again.Err == api.OK && r.Err == api.ErrFull {
					c.do(script.Step{Kind: script.Run, N: enough})
				}
				c.end()
				if r.Err == api.OK {
					break
				}
			}
		}
	})
}

// step: one of any kind but Spoil.
func (n *numbers) step() script.Step {
	switch n.next(20) {
	case 0, 1, 2, 3, 4:
		return script.Step{Kind: script.Start}
	case 5, 6, 7, 8, 9:
		return script.Step{Kind: script.Run, N: one(n, -1, 0, 1, n.next(10), n.next(100), enough)}
	case 10, 11, 12:
		return script.Step{Kind: script.Arm, N: one(n, -1, 0, n.next(8), n.next(30), n.next(200))}
	case 13, 14, 15:
		return n.crash()
	case 16, 17:
		return script.Step{Kind: script.Quota, N: one(n, -1, 0, n.next(1000), n.next(5000), room, room)}
	case 18:
		return script.Step{Kind: script.Quota, N: room}
	}
	return script.Step{Kind: one(n, 0, 7, -1, 100), N: n.next(50), Text: "a"}
}

func (n *numbers) crash() script.Step {
	s := script.Step{Kind: script.Crash, Names: n.next(2) == 0}
	for range n.next(10) {
		s.Keeps = append(s.Keeps, one(n, 0, -1, n.next(4), n.next(30), room))
	}
	return s
}

// likely: a step that lets a script come further than any one would.
func (n *numbers) likely(c *watch) script.Step {
	switch {
	case n.next(3) == 0:
		return n.step()
	case c.dead:
		return n.crash()
	case !c.runs:
		return script.Step{Kind: script.Start}
	case n.next(2) == 0:
		return script.Step{Kind: script.Arm, N: n.next(40)}
	}
	return script.Step{Kind: script.Run, N: one(n, n.next(20), n.next(200), enough)}
}

// P20.2, P20.3: THE WHOLE: scripts without Spoil, of any steps in any order.
func TestAnyScript(t *testing.T) {
	each(t, large(), func(t *testing.T, x plan, l []moment) {
		for seed := range numbers(400) {
			n := seed
			c := x.watch(t, l, append(intervals(l), 3, 16, 50)[n.next(8)])
			likely := n.next(2) == 0
			for range n.next(40) {
				if likely {
					c.do(n.likely(c))
				} else {
					c.do(n.step())
				}
				if n.next(100) == 0 {
					c.end()
				}
			}
			c.end()
			c.end()
		}
	})
}
