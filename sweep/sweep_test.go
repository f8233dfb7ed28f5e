package sweep

import (
	"math"
	"slices"
	"testing"

	"deadwood/api"
	"deadwood/clock"
	"deadwood/core"
	"deadwood/epoch"
	"deadwood/limbo"
	"deadwood/pairs"
	"deadwood/plan"
	"deadwood/remove"
	"deadwood/rig"
	"deadwood/rig/chore"
	walking "deadwood/walk"
)

const most = 9999

func row(r *rig.Rig) []int64 {
	var l []int64
	for _, p := range r.M.Thread(0).Row() {
		l = append(l, p.Key)
	}
	return l
}

// gather has thread 0 do Walk or Sweep, or both, at a time, of all keys.
func gather(r *rig.Rig, v uint64, fns ...int) []int64 {
	s := &r.M.Thread(0).Session
	s.V, s.Lo, s.Hi = v, math.MinInt64, math.MaxInt64
	r.M.Thread(0).Fresh()
	for _, fn := range fns {
		r.Alone(0, most, fn)
	}
	return row(r)
}

func TestTheExample(t *testing.T) { // 27.1, 27.2
	r := rig.New(1, 12, 9, Do)
	chore.Put(r, 5)
	r.Alone(0, most, epoch.Enter)
	told, _ := r.Alone(0, most, clock.Tick)
	r.Alone(0, most, remove.Remove, 5)
	if l := gather(r, told[0], walking.Walk); len(l) != 0 {
		t.Errorf("Walk gathers %v", l)
	}
	if l := gather(r, told[0], Sweep); !slices.Equal(l, []int64{5}) || r.M.Thread(0).Row()[0].Val != -5 {
		t.Errorf("Sweep gathers %v", l)
	}
	if l := gather(r, told[0]+1, Sweep); len(l) != 0 {
		t.Errorf("Sweep gathers %v, that was dead then", l)
	}
}

func TestBagsAndTheirStamps(t *testing.T) { // 27.1, 27.2
	r := rig.New(3, 60, 99, Do)
	chore.Put(r, 1, 2, 3, 4, 5, 6, 7)
	r.M.Mem().Store(plan.Clock, 9)
	for i, k := range []int64{1, 2, 3} { // each at an epoch, by thread 1
		chore.Alone(r, 1, api.Call{Op: api.Delete, Key: k})
		if i == 1 {
			chore.Alone(r, 2, api.Call{Op: api.Delete, Key: 5})
			chore.Alone(r, 2, api.Call{Op: api.Delete, Key: 6})
		}
		r.Alone(0, most, epoch.Advance)
	}
	was := r.M.Mem().Words()
	for past, want := range map[uint64][]int64{0: {1, 2, 3, 5, 6}, 3: {1, 2, 3, 5, 6}, 4: {2, 3, 5, 6}, 5: {3}, 6: nil} {
		r.M.Thread(0).Session.Past = past
		if l := gather(r, 8, Sweep); !slices.Equal(l, want) {
			t.Errorf("Sweep of what is put away from %d on gathers %v, not %v", past, l, want)
		}
	}
	r.M.Thread(0).Session.Past = 0
	s := &r.M.Thread(0).Session
	s.V, s.Lo, s.Hi = 8, 2, 5
	r.M.Thread(0).Fresh()
	r.M.Thread(0).Gather(api.Pair{Key: 3, Val: 77})
	if r.Alone(0, most, Sweep); !slices.Equal(row(r), []int64{2, 3, 5}) || r.M.Thread(0).Row()[1].Val != 77 {
		t.Errorf("Sweep from 2 to 5 gathers %v besides what was there", r.M.Thread(0).Row())
	}
	if !slices.Equal(r.M.Mem().Words(), was) || r.M.Fault() {
		t.Error("Sweep changes a word")
	}
}

func TestVictims(t *testing.T) { // 27.1
	for th := range 3 {
		r := rig.New(3, 60, 99, Do)
		chore.Put(r, 1, 2, 3)
		r.M.Mem().Store(plan.Clock, 9)
		r.M.Thread(0).Session.Past = 4
		leaf, _ := rig.Leaf(r.M, 2)
		r.M.Mem().Store(r.M.Plan().Victim(th), uint64(leaf.Edge.Node()))
		if l := gather(r, 8, Sweep); !slices.Equal(l, []int64{2}) {
			t.Errorf("a leaf that thread %d announces: %v", th, l)
		}
		r.M.Write(leaf.Edge, plan.Died, 8)
		if l := gather(r, 8, Sweep); len(l) != 0 {
			t.Errorf("a leaf that thread %d announces, and that isn't there: %v", th, l)
		}
	}
}

// TestOrderOfALook has a leaf go from where it is announced into a bag between Sweep's steps.
func TestOrderOfALook(t *testing.T) { // 27.1, 27.2
	for wait := range 60 {
		r := rig.New(2, 60, 99, Do)
		chore.Put(r, 1, 2, 3)
		r.Alone(0, most, epoch.Enter)
		told, _ := r.Alone(0, most, clock.Tick)
		r.M.Thread(1).Call(remove.Remove, 2)
		for range wait {
			r.M.Step(1, Do)
		}
		r.M.Thread(0).Session.V, r.M.Thread(0).Session.Lo, r.M.Thread(0).Session.Hi = told[0], 0, 9
		r.Alone(0, most, walking.Walk)
		r.M.Thread(0).Call(Sweep)
		for r.M.Step(0, Do) {
			r.M.Step(1, Do)
		}
		if l := row(r); !slices.Equal(l, []int64{1, 2, 3}) || r.M.Fault() {
			t.Errorf("begun behind step %d: %v", wait, l)
		}
	}
}

// busy has other threads change the map while thread 0 gathers, again and again; it is told what is gathered, and what was meant.
func busy(d *rig.Dice, i int, look func(r *rig.Rig, steps int, want []api.Pair)) *rig.Rig {
	threads := 2 + i%5
	r := rig.New(threads, []int{24, 40, 70}[i%3], 1000, Do)
	steps, last := 0, r.M.Mem().Words()[plan.Clock]
	var meant []api.Pair
	r.Do = func(m *core.Machine, th int) {
		fn := m.Thread(th).Top().Fn
		Do(m, th)
		if th == 0 && (fn == walking.Walk || fn == walking.Check || fn == Sweep) {
			steps++
		}
		if now := m.Mem().Words()[plan.Clock]; now != last {
			last, meant = now, rig.Pairs(m)
		}
	}
	for range 8 {
		lo := int64(d.Below(6))
		hi := lo + int64(d.Below(6))
		chore.Within(r, 0,
			rig.Job{Fn: clock.Tick, Then: func([12]uint64) {
				s := &r.M.Thread(0).Session
				s.Lo, s.Hi = lo, hi
				steps = 0
			}},
			rig.Job{Fn: walking.Walk},
			rig.Job{Fn: Sweep, Then: func([12]uint64) { look(r, steps, pairs.Cut(meant, lo, hi, most)) }})
		for th := 1; th < threads; th++ {
			for range 2 {
				chore.Some(r, d, th, 7)
			}
			if d.Below(3) == 0 {
				r.Add(th, rig.Job{Fn: epoch.Advance}, rig.Job{Fn: limbo.Clean})
			}
		}
	}
	return r
}

func TestWhateverTheTurns(t *testing.T) { // 27.2
	d := rig.Dice(27)
	for i := range 500 {
		r := busy(&d, i, func(r *rig.Rig, steps int, want []api.Pair) {
			if got := r.M.Thread(0).Row(); !pairs.Same(got, want) {
				t.Fatalf("game %d: gathered are %v, not %v", i, got, want)
			}
			c := r.M.Plan().Conf()
			if steps > 16*c.Slots+20*c.Threads+20 {
				t.Fatalf("Walk and Sweep take %d steps", steps)
			}
		})
		if !r.Play(&d, 400000) || r.M.Fault() {
			t.Fatal("somebody comes to no end, or the machine is at fault")
		}
	}
}

func TestOtherRoutines(t *testing.T) { // 27.1
	r := rig.New(1, 8, 9, Do)
	if told, _ := r.Alone(0, 99, clock.Tick); told[0] != 1 {
		t.Error("Tick is done")
	}
	if _, steps := r.Alone(0, 99, walking.Walk); steps == 99 {
		t.Error("Walk is done")
	}
	if _, steps := r.Alone(0, 999, Sweep); steps > 8*8+60 {
		t.Errorf("Sweep takes %d steps", steps)
	}
	if fn, is := r.DoesNone(0, 59, 64, 70); !is {
		t.Errorf("routine %d is done", fn)
	}
}
