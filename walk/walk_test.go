package walk

import (
	"math"
	"slices"
	"testing"

	"deadwood/api"
	clocks "deadwood/clock"
	"deadwood/core"
	"deadwood/edge"
	"deadwood/pairs"
	"deadwood/plan"
	"deadwood/rig"
	"deadwood/rig/chore"
)

const most = 9999

func span(r *rig.Rig, v uint64, lo, hi int64) {
	s := &r.M.Thread(0).Session
	s.V, s.Lo, s.Hi = v, lo, hi
}

func TestCheck(t *testing.T) { // 26.1, 26.2
	r := rig.New(1, 40, 99, Do)
	for _, k := range []int64{1, 5, 9} {
		rig.Plant(r.M, k, 10*k, 3)
	}
	for i, c := range []struct {
		slot   int
		v      uint64
		lo, hi int64
		died   uint64
		want   bool
	}{
		{8, 3, 0, 9, 0, true}, {8, 3, 5, 5, 0, true}, {8, 3, 6, 9, 0, false}, {8, 3, 0, 4, 0, false}, {8, 2, 0, 9, 0, false},
		{8, 4, 0, 9, 4, false}, {8, 4, 0, 9, 5, true}, {8, 9, 0, 9, 3, false}, {9, 3, 0, 9, 0, false}, {1, 3, 0, 9, 0, false}, {2, 3, 0, 9, 0, false},
		{3, 3, math.MinInt64, math.MaxInt64, 0, false}, {4, 3, 0, 9, 0, false}, {5, 3, 0, 9, 0, false}, {6, 3, 0, 9, 0, true},
	} {
		e := edge.Make(c.slot, 0)
		if c.slot == 8 {
			r.M.Write(e, plan.Died, c.died)
		}
		was := r.M.Mem().Words()
		r.M.Thread(0).Fresh()
		span(r, c.v, c.lo, c.hi)
		told, steps := r.Alone(0, most, Check, uint64(e.Flagged().Tagged()))
		want := []api.Pair{}
		if c.want {
			key := map[int]int64{6: 1, 8: 5}[c.slot]
			want = []api.Pair{{Key: key, Val: 10 * key}}
		}
		if told != [12]uint64{} || steps > 5 || !pairs.Same(r.M.Thread(0).Row(), want) || !slices.Equal(r.M.Mem().Words(), was) || r.M.Fault() {
			t.Errorf("case %d: %v within %d steps", i, r.M.Thread(0).Row(), steps)
		}
	}
}

// TestBornAheadOfDied has a leaf die between Check's steps.
func TestBornAheadOfDied(t *testing.T) { // 26.1
	for wait := range 5 {
		r := rig.New(1, 40, 99, Do)
		rig.Plant(r.M, 5, 50, 1)
		span(r, 4, 0, 9)
		r.M.Thread(0).Call(Check, 6)
		for range wait {
			r.M.Step(0, Do)
		}
		r.M.Write(6, plan.Died, 3)
		for r.M.Step(0, Do) {
		}
		if got := len(r.M.Thread(0).Row()); got != map[bool]int{true: 0, false: 1}[wait < 4] {
			t.Errorf("dead behind step %d: %d pairs", wait, got)
		}
	}
}

func TestWalkAlone(t *testing.T) { // 26.1, 26.2
	d := rig.Dice(9)
	for range 60 {
		r := rig.New(1, 60, 99, Do)
		var all []api.Pair
		var born []uint64
		for range d.Below(20) {
			p := api.Pair{Key: int64(d.Below(60)), Val: int64(d.Below(99))}
			if d.Below(20) == 0 {
				p.Key = math.MinInt64
			} else if d.Below(20) == 0 {
				p.Key = math.MaxInt64
			}
			if l, ok := pairs.Put(all, p); ok {
				at, _ := pairs.Find(l, p.Key)
				all, born = l, slices.Insert(born, at, uint64(d.Below(9)))
				rig.Plant(r.M, p.Key, p.Val, born[at])
			}
		}
		died := make([]uint64, len(all))
		for i, p := range all {
			if d.Below(3) == 0 {
				died[i] = born[i] + uint64(d.Below(4))
				leaf, _ := rig.Leaf(r.M, p.Key)
				r.M.Write(leaf.Edge, plan.Died, died[i])
				r.M.Write(leaf.Parent, plan.Left+leaf.Side, uint64(leaf.Edge.Flagged()))
			}
		}
		was := r.M.Mem().Words()
		for range 30 {
			v, lo, hi := uint64(d.Below(12)), int64(d.Below(70))-5, int64(d.Below(70))-5
			if d.Below(5) == 0 {
				lo, hi = math.MinInt64, math.MaxInt64
			}
			var want []api.Pair
			for i, p := range all {
				if p.Key >= lo && p.Key <= hi && clocks.There(v, born[i], died[i]) {
					want = append(want, p)
				}
			}
			r.M.Thread(0).Push(77) // what was there of before is gone
			r.M.Thread(0).Gather(api.Pair{Key: 3})
			span(r, v, lo, hi)
			told, steps := r.Alone(0, most, Walk)
			if told != [12]uint64{} || !pairs.Same(r.M.Thread(0).Row(), want) || steps > 8*60+9 {
				t.Fatalf("Walk at %d from %d to %d gathers %v, not %v", v, lo, hi, r.M.Thread(0).Row(), want)
			}
			if _, ok := r.M.Thread(0).Pop(); ok {
				t.Fatal("behind Walk nothing waits")
			}
		}
		if !slices.Equal(r.M.Mem().Words(), was) || r.M.Fault() {
			t.Fatal("Walk changes a word")
		}
	}
}

// TestNoOtherSides has Walk go down no edge on whose side no key from Lo to Hi lies.
func TestNoOtherSides(t *testing.T) { // 26.1
	r := rig.New(1, 200, 99, Do)
	var grow func(lo, hi int64)
	grow = func(lo, hi int64) { // so that the tree is as flat as may be
		if lo <= hi {
			rig.Plant(r.M, (lo+hi)/2, 0, 1)
			grow(lo, (lo+hi)/2-1)
			grow((lo+hi)/2+1, hi)
		}
	}
	grow(0, 62)
	for k := int64(0); k < 63; k++ {
		span(r, 5, k, k)
		if _, steps := r.Alone(0, most, Walk); steps > 80 || len(r.M.Thread(0).Row()) != 1 {
			t.Errorf("Walk of %d alone takes %d steps", k, steps)
		}
	}
	span(r, 5, 9, 3)
	if _, steps := r.Alone(0, most, Walk); steps > 80 || len(r.M.Thread(0).Row()) != 0 {
		t.Errorf("Walk of nothing takes %d steps", steps)
	}
}

func TestHowLongItTakes(t *testing.T) { // 26.2
	d := rig.Dice(26)
	for i := range 200 {
		threads := 2 + i%5
		slots := []int{20, 30, 60}[i%3]
		r := rig.New(threads, slots, 1000, Do)
		span(r, 1, 0, 9)
		steps := 0
		r.Do = func(m *core.Machine, th int) {
			fn := m.Thread(th).Top().Fn
			Do(m, th)
			if th == 0 && (fn == Walk || fn == Check) {
				steps++
			}
		}
		for range 6 {
			chore.Within(r, 0, rig.Job{Fn: Walk, First: func() { steps = 0 }, Then: func([12]uint64) {
				if steps > 8*slots+9 {
					t.Fatalf("Walk takes %d steps of %d slots", steps, slots)
				}
			}})
			for th := 1; th < threads; th++ {
				for range 3 {
					chore.Some(r, &d, th, 9)
				}
			}
		}
		if !r.Play(&d, 400000) || r.M.Fault() {
			t.Fatal("somebody comes to no end, or the machine is at fault")
		}
	}
}

func TestOtherRoutines(t *testing.T) { // 26.1
	r := rig.New(1, 8, 9, Do)
	if told, _ := r.Alone(0, 99, clocks.Tick); told[0] != 1 {
		t.Error("Tick is done")
	}
	if told := chore.Alone(r, 0, api.Call{Op: api.Insert, Key: 5}); told.Kind != api.Done {
		t.Error("Insert is done")
	}
	if fn, is := r.DoesNone(0, 59, 63, 70); !is {
		t.Errorf("routine %d is done", fn)
	}
}
