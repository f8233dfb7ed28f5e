package solo

import (
	"math"
	"slices"
	"testing"

	"deadwood/api"
	"deadwood/index"
	"deadwood/rig"
	"deadwood/run"
)

func conf(threads, slots int, stamps uint64) api.Conf {
	return api.Conf{Threads: threads, Slots: slots, Stamps: stamps}
}

func begin(t int, c api.Call) api.Entry { return api.Entry{Thread: t, Begin: true, Call: c} }

func pick(t int) api.Entry { return api.Entry{Thread: t} }

func TestBoundAndLeast(t *testing.T) { // 34.1, 34.2
	for _, c := range []struct {
		c            api.Conf
		bound, least int
	}{
		{conf(1, 11, 1), 1210, 0}, {conf(1, 7, 1), 140 + 280 + 250 + 300, 0}, {conf(1, 12, 1), 240 + 480 + 550, 0}, {conf(1, 13, 9), 260 + 520 + 550, 1}, {conf(1, 14, 9), 280 + 560 + 550, 1},
		{conf(2, 21, 1), 2 * (840 + 840 + 500 + 300), 2}, {conf(6, 250, 1<<40), 6 * (30000 + 10000 + 1500 + 300), 104},
		{conf(0, 11, 1), 0, 0}, {conf(7, 250, 1), 0, 0}, {conf(1, 251, 1), 0, 0}, {conf(1, 250, 0), 0, 0}, {conf(1, 6, 1), 0, 0}, {conf(1, math.MaxInt, 1), 0, 0},
	} {
		if Bound(c.c) != c.bound || Least(c.c) != c.least {
			t.Errorf("%v: Bound is %d, Least is %d", c.c, Bound(c.c), Least(c.c))
		}
	}
}

func TestAloneAndWorst(t *testing.T) { // 34.1
	r, _ := run.New(conf(3, 30, 9))
	both := func(th, most, steps int, ok bool) {
		t.Helper()
		if n, is := Alone(r, th, most); n != steps || is != ok {
			t.Errorf("Alone(%d, %d) = %d %v", th, most, n, is)
		}
	}
	worst := func(most, steps int, ok bool) {
		t.Helper()
		if n, is := Worst(r, most); n != steps || is != ok {
			t.Errorf("Worst(%d) = %d %v", most, n, is)
		}
	}
	both(0, 0, 0, true)
	worst(0, 0, true)
	r.Do(begin(1, api.Call{Op: api.Join}))
	counts, words := r.Counts(), r.Machine().Mem().Words()
	both(0, 0, 0, true)
	both(1, 2, 2, true)
	both(1, 99, 2, true)
	both(1, 1, 1, false)
	both(1, 0, 0, false)
	worst(2, 2, true)
	worst(9, 2, true)
	worst(1, 1, false)
	worst(0, 0, false)
	both(-1, 9, 0, false)
	both(3, 9, 0, false)
	both(math.MaxInt, 9, 0, false)
	both(0, -1, 0, false)
	both(1, math.MinInt, 0, false)
	worst(-1, 0, false)
	if r.Counts() != counts || !slices.Equal(r.Machine().Mem().Words(), words) || r.Machine().Thread(1).Top().PC != 0 {
		t.Error("the run is changed")
	}
	r.Do(pick(1))
	both(1, 9, 1, true)
	r.Do(begin(2, api.Call{Op: api.Join}))
	worst(9, 2, true)
	if n, ok := Alone(nil, 0, 9); n != 0 || ok {
		t.Error("Alone of a nil run")
	}
	if n, ok := Worst(nil, 9); n != 0 || ok {
		t.Error("Worst of a nil run")
	}
}

// someCall is a call as the dice say, of so many keys.
func someCall(d *rig.Dice, keys int) api.Call {
	lo := int64(d.Below(keys))
	c := api.Call{Op: d.Below(13), Key: lo, Val: int64(d.Below(99)), Hi: lo + int64(d.Below(keys)), Limit: 1 + d.Below(5)}
	if d.Below(2) == 0 {
		c.Op = d.Below(2)
	}
	return c
}

// game has threads call and do steps as the dice say, and look behind every entry; between calls turns are of many steps now and then.
func game(d *rig.Dice, c api.Conf, calls, keys int, look func(r *run.Run, e api.Entry)) *run.Run {
	r, _ := run.New(c)
	do := func(e api.Entry) bool {
		ok := r.Do(e)
		if look != nil {
			look(r, e)
		}
		return ok
	}
	for th := range c.Threads {
		do(begin(th, api.Call{Op: api.Join}))
	}
	for r.Counts().Begun < calls {
		th := d.Below(c.Threads)
		many := 1 + d.Below(1+d.Below(40))
		if d.Below(20) == 0 {
			many *= 9
		}
		for range many {
			if !do(pick(th)) && r.Counts().Begun < calls {
				do(begin(th, someCall(d, keys)))
			}
		}
	}
	return r
}

func TestEachAlone(t *testing.T) { // 34.3
	d := rig.Dice(36)
	for i := range 60 {
		c := conf(1+i%6, []int{250, 40, 24, 13}[i%4], []uint64{9999, 9}[i%2])
		most := index.Most(c)
		n := 0
		game(&d, c, 60, 1+i%8, func(r *run.Run, e api.Entry) {
			if n++; n%7 > 0 {
				return
			}
			if steps, ok := Worst(r, 8*most); !ok {
				t.Fatalf("a thread takes more than %d steps alone", steps)
			}
			for th := range c.Threads { // at a call's beginning, while all others are within none
				idle := true
				for o := range c.Threads {
					idle = idle && (o == th || r.Machine().Thread(o).Depth() == 0)
				}
				if steps, ok := Alone(r, th, most); idle && !ok {
					t.Fatalf("a call takes more than %d steps alone", steps)
				}
			}
		})
	}
}

func TestTheGap(t *testing.T) { // 34.3, 0.5
	d := rig.Dice(37)
	for i := range 120 {
		c := conf(1+i%6, []int{250, 40, 24, 13, 7}[i%5], []uint64{9999, 9}[i%2])
		r := game(&d, c, 200, 1+i%8, nil)
		if r.Counts().Gap > Bound(c) || r.Machine().Fault() {
			t.Fatalf("the Gap is %d, the bound %d", r.Counts().Gap, Bound(c))
		}
	}
}

// TestTheGapOfLockStep has all threads do one step each by turns, and the like, with many at the same keys.
func TestTheGapOfLockStep(t *testing.T) { // 34.3, 0.5
	d := rig.Dice(38)
	for i := range 90 {
		c := conf(2+i%5, []int{40, 24, 13}[i%3], 99999)
		r, _ := run.New(c)
		for th := range c.Threads {
			r.Do(begin(th, api.Call{Op: api.Join}))
		}
		turn := 1 + i/3%3
		for n := range 12000 {
			th := n / turn % c.Threads
			if !r.Do(pick(th)) {
				x := api.Call{Op: d.Below(2), Key: int64(d.Below(2))}
				if i%4 == 0 {
					x = someCall(&d, 2)
				}
				r.Do(begin(th, x))
			}
		}
		if r.Counts().Gap > Bound(c) || r.Machine().Fault() {
			t.Fatalf("the Gap is %d, the bound %d", r.Counts().Gap, Bound(c))
		}
	}
}
