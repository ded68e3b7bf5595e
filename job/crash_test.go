package job_test

import (
	"math/rand"
	"strconv"
	"testing"

	"scribe/api"
	"scribe/job"
)

// each lets tests of programs run beside one another.
func each(t *testing.T, l []plan, do func(t *testing.T, x plan)) {
	for i, x := range l {
		t.Run(strconv.Itoa(i), func(t *testing.T) {
			t.Parallel()
			do(t, x)
		})
	}
}

// P19.2, P19.3, P19.5: the disk dies at each deed of a run, and keeps one thing or another.
func TestEachDeed(t *testing.T) {
	each(t, small(), func(t *testing.T, x plan) {
		first := x.chase(t, 1, 1)
		for _, interval := range first.intervals() {
			first.interval = interval
			for _, k := range crashes() {
				for arm := 0; ; arm++ {
					c := first.again()
					c.d.Arm(arm)
					if c.try() == api.OK {
						break
					}
					c.crash(k)
					c.end()
				}
			}
		}
	})
}

// P19.2, P19.3, P19.5: it dies at each deed, and behind that at each deed of the next Start and Run. Where checkpoints make these many, the second one is one of four, in turns.
func TestTwoDeeds(t *testing.T) {
	each(t, small(), func(t *testing.T, x plan) {
		first := x.chase(t, 1, enough)
		for i, interval := range first.intervals() {
			first.interval = interval
			twice(first, []int{4, 4, 1, 1, 1}[i])
		}
	})
}

// twice lets a job's disk die at any two deeds. Which crash it is changes from one to the next.
func twice(first *chase, apart int) {
	l := crashes()
	turn := 0
	for arm := 0; ; arm++ {
		for other := arm % apart; ; other += apart {
			c := first.again()
			c.d.Arm(arm)
			if c.try() == api.OK {
				return
			}
			turn++
			c.crash(l[turn%len(l)])
			c.d.Arm(other)
			if c.try() == api.OK {
				break
			}
			c.crash(l[(turn/3+other)%len(l)])
			c.end()
		}
	}
}

// P19.2, P19.3, P19.5: three deeds, at any of which it dies.
func TestThreeDeeds(t *testing.T) {
	l := crashes()
	each(t, []plan{over("{print;print > \"o\" NR}", "in2"), over("BEGIN{printf \"\" > \"e\";print 12}")}, func(t *testing.T, x plan) {
		first := x.chase(t, 9, enough)
		for _, k := range []crash{l[2], l[11]} {
			for arms := range 18 * 18 * 18 {
				c := first.again()
				for _, arm := range []int{arms % 18, arms / 18 % 18, arms / 18 / 18} {
					c.d.Arm(arm)
					if c.try() == api.OK {
						break
					}
					c.crash(k)
				}
				c.end()
			}
		}
	})
}

// P19.2, P19.3: of each file each number of bytes is kept that weren't safe, of the others none or all.
func TestEachKeep(t *testing.T) {
	each(t, []plan{over("{print;print NR 10 > (\"o\" NR%2)}", "in"), over("BEGIN{print 12345678 > \"a\";print 1 > \"zz\";print 2 >> \"a\";exit}")}, func(t *testing.T, x plan) {
		first := x.chase(t, 11, enough)
		for arm := 0; ; arm++ {
			for choice := range 9 * 12 * 4 {
				c := first.again()
				c.d.Arm(arm)
				if c.try() == api.OK {
					return
				}
				keeps := make([]int, 10)
				for i := range keeps {
					keeps[i] = choice & 1 * room
				}
				keeps[choice/4%9] = choice / 36
				c.crash(crash{keeps, choice&2 > 0})
				c.end()
			}
		}
	})
}

// P19.2 to P19.5: any number of crashes and full disks, in any order, with any room, in pieces of any size.
func TestAnyCrashes(t *testing.T) {
	each(t, large(), func(t *testing.T, x plan) {
		r := rand.New(rand.NewSource(40))
		first := x.chase(t, 1, 1)
		for range 300 {
			c := first.again()
			c.interval = []int{1, 2, 3, 5, 7, 16, 50, len(c.l), job.MaxInterval}[r.Intn(9)]
			c.fuel = []int{1, 2, 3, 10, enough}[r.Intn(5)]
			for range r.Intn(12) {
				c.d.Quota([]int{room, room, c.d.Used() + r.Intn(1500), c.d.Used() - r.Intn(40)}[r.Intn(4)])
				c.d.Arm([]int{-1, r.Intn(8), r.Intn(30), r.Intn(200)}[r.Intn(4)])
				e := c.try()
				if e == api.ErrDead || r.Intn(3) == 0 {
					keeps := make([]int, r.Intn(10))
					for i := range keeps {
						keeps[i] = []int{0, r.Intn(4), r.Intn(30), room}[r.Intn(4)]
					}
					c.crash(crash{keeps, r.Intn(2) == 0})
				}
			}
			c.end()
		}
	})
}

// P19.3: behind each number of steps a crash, though the disk didn't die: the job goes on at the last checkpoint, just there.
func TestEachStep(t *testing.T) {
	each(t, large(), func(t *testing.T, x plan) {
		l := x.moments(t)
		steps := len(l) - 1
		apart := 1 + steps/40
		for _, interval := range []int{1, 2, 5, 7, steps + 1} {
			for at := 0; at <= steps; at += apart {
				for i, k := range crashes() {
					if i%4 != at/apart%4 {
						continue
					}
					d := x.disk()
					start(t, d, x.spec(interval)).Run(at)
					d.Crash(k.keeps, k.names)
					j := start(t, d, x.spec(interval))
					x.check(t, d, j, l)
					want := at - at%interval
					if at == steps {
						want = at
					}
					if j.Steps() != want {
						t.Fatalf("%q, interval %d: behind %d steps it goes on at %d", x.source, interval, at, j.Steps())
					}
				}
			}
		}
	})
}

// P19.2: a disk on which another job was broken off, whose files aren't safe. What that one printed is this one's input, and stays as it was when the job began.
func TestBehindAnother(t *testing.T) {
	x := over("{print > \"mine\";print NR}", "theirs", "in")
	other := over("BEGIN{while(1)print i++ > \"theirs\"}")
	lay := func() *chase {
		d := x.disk()
		start(t, d, other.spec(40)).Run(90)
		y := x
		y.lie = shown(d)
		return &chase{plan: y, t: t, l: y.moments(t), d: d, interval: 7, fuel: enough}
	}
	for i, k := range crashes() {
		for arm := 0; ; arm++ {
			c := lay()
			c.d.Arm(arm)
			if c.try() == api.OK {
				break
			}
			c.crash(k)
			if !c.begun {
				// It begins with what the crash left.
				c.lie = shown(c.d)
				if _, ok := c.lie["theirs"]; !ok {
					continue
				}
				c.l = c.moments(t)
			}
			c.d.Arm(i + arm)
			if c.try() == api.OK {
				continue
			}
			c.crash(k)
			c.end()
		}
	}
}
