package scan

import (
	"math"
	"slices"
	"testing"

	"deadwood/api"
	"deadwood/clock"
	"deadwood/frame"
	"deadwood/lin"
	"deadwood/pairs"
	"deadwood/plan"
	"deadwood/rig"
	"deadwood/rig/chore"
	sweeping "deadwood/sweep"
)

const most = 9999

func row(n ...int64) []api.Pair {
	var l []api.Pair
	for i := 0; i < len(n); i += 2 {
		l = append(l, api.Pair{Key: n[i], Val: n[i+1]})
	}
	return l
}

func span(r *rig.Rig, lo, hi int64) {
	s := &r.M.Thread(0).Session
	s.Lo, s.Hi = lo, hi
}

func TestScanAlone(t *testing.T) { // 28.1, 28.2
	r := rig.New(2, 30, 5, Do)
	chore.Put(r, 7, 5)
	span(r, 0, 9)
	told, _ := r.Alone(0, most, Scan)
	if told != [12]uint64{api.List} || !pairs.Same(r.M.Thread(0).Row(), row(5, -5, 7, -7)) || r.M.Thread(0).Session.V != 1 {
		t.Fatalf("Scan tells %v: %v", told, r.M.Thread(0).Row())
	}
	span(r, 6, 9)
	r.Alone(0, most, Scan)
	if !pairs.Same(r.M.Thread(0).Row(), row(7, -7)) || r.M.Mem().Words()[plan.Clock] != 3 {
		t.Error("Scan of a part")
	}
	chore.Alone(r, 1, api.Call{Op: api.Delete, Key: 7})
	r.Alone(0, most, Scan)
	if len(r.M.Thread(0).Row()) != 0 {
		t.Error("Scan of what is not there any more")
	}
	r.Alone(0, most, Scan)
	was := r.M.Mem().Words()
	told, _ = r.Alone(0, most, Scan)
	if told != [12]uint64{api.Spent} || !slices.Equal(r.M.Mem().Words(), was) {
		t.Errorf("Scan without a time tells %v", told)
	}
}

func TestAgain(t *testing.T) { // 28.1
	r := rig.New(2, 30, 50, Do)
	chore.Put(r, 7, 5)
	span(r, math.MinInt64, math.MaxInt64)
	r.Alone(0, most, Scan)
	r.M.Thread(0).Session.Past = 0
	chore.Alone(r, 1, api.Call{Op: api.Insert, Key: 6})
	chore.Alone(r, 1, api.Call{Op: api.Delete, Key: 7})
	clockWas := r.M.Mem().Words()[plan.Clock]
	told, _ := r.Alone(0, most, Again)
	if told != [12]uint64{api.List} || r.M.Thread(0).Session.V != 1 || r.M.Mem().Words()[plan.Clock] != clockWas {
		t.Errorf("Again tells %v", told)
	}
	if !pairs.Same(r.M.Thread(0).Row(), row(5, -5, 7, -7)) {
		t.Errorf("Again gathers %v", r.M.Thread(0).Row())
	}
	r.M.Thread(0).Session.V = 2
	if r.Alone(0, most, Again); !pairs.Same(r.M.Thread(0).Row(), row(5, -5, 6, 0)) {
		t.Errorf("Again, later, gathers %v", r.M.Thread(0).Row())
	}
}

func TestCut(t *testing.T) { // 28.1
	x := frame.New()
	for k := range int64(5) {
		x.Gather(api.Pair{Key: k, Val: -k})
	}
	for limit, want := range map[int]int{0: 0, -1: 0, math.MinInt: 0, 1: 1, 4: 4, 5: 5, 6: 5, math.MaxInt: 5} {
		x.Session.Limit = limit
		l := Cut(x)
		if !pairs.Same(l, x.Row()[:want]) {
			t.Errorf("cut to %d: %v", limit, l)
		}
		if len(l) > 0 {
			l[0].Val = 77
		}
	}
	if x.Row()[0].Val != 0 || len(Cut(nil)) != 0 || len(Cut(frame.New())) != 0 {
		t.Error("the row itself is told, or nothing has something")
	}
}

func TestWhateverTheTurns(t *testing.T) { // 28.2
	d := rig.Dice(28)
	for i := range 400 {
		threads := 1 + i%6
		keys := 1 + i%5
		stamps := []uint64{1000, 4}[i/6%2]
		r := rig.New(threads, []int{250, 40, 26}[i%3], stamps, Do)
		for th := range threads {
			r.Told(th, api.Call{Op: api.Join}, api.Answer{})
			for range 36 / threads {
				if d.Below(4) > 0 {
					chore.Some(r, &d, th, keys)
					continue
				}
				lo := int64(d.Below(keys))
				c := api.Call{Op: api.Range, Key: lo, Hi: lo + int64(d.Below(keys)), Limit: 1 + d.Below(9)}
				job := r.Logged(th, c, rig.Job{Fn: Scan}, func(told [12]uint64) api.Answer {
					if told[0] == api.Spent && r.M.Mem().Words()[plan.Clock] < stamps {
						t.Error("Spent, though there are times")
					}
					a := api.Answer{Kind: int(told[0])}
					if a.Kind == api.List {
						a.Pairs = Cut(r.M.Thread(th))
					}
					return a
				})
				first := job.First
				job.First = func() {
					s := &r.M.Thread(th).Session
					s.Lo, s.Hi, s.Limit = c.Key, c.Hi, c.Limit
					first()
				}
				chore.Within(r, th, job)
			}
		}
		if !r.Play(&d, 900000) || r.M.Fault() {
			t.Fatal("somebody comes to no end, or the machine is at fault")
		}
		if !lin.Linear(r.Events) {
			t.Fatalf("game %d: no order explains what was told", i)
		}
	}
}

func TestOtherRoutines(t *testing.T) { // 28.1
	r := rig.New(1, 8, 9, Do)
	if told, _ := r.Alone(0, 99, clock.Tick); told[0] != 1 {
		t.Error("Tick is done")
	}
	if _, steps := r.Alone(0, 99, sweeping.Sweep); steps == 99 {
		t.Error("Sweep is done")
	}
	if fn, is := r.DoesNone(0, 59, 69, 72); !is {
		t.Errorf("routine %d is done", fn)
	}
}
