package insert

import (
	"math"
	"slices"
	"testing"

	"deadwood/api"
	"deadwood/edge"
	"deadwood/epoch"
	"deadwood/order"
	"deadwood/plan"
	"deadwood/rig"
	"deadwood/seek"
	slotting "deadwood/slots"
	"deadwood/word"
)

const most = 9999

func ins(r *rig.Rig, key, val int64) uint64 {
	told, _ := r.Alone(0, most, Insert, word.Bits(key), word.Bits(val))
	return told[0]
}

// dies has a key's leaf be dead, and its edge flagged or not, as no thread does.
func dies(r *rig.Rig, key int64, flagged bool) {
	leaf, _ := rig.Leaf(r.M, key)
	r.M.Write(leaf.Edge, plan.Died, 1)
	if flagged {
		r.M.Write(leaf.Parent, plan.Left+leaf.Side, uint64(leaf.Edge.Flagged()))
	}
}

func TestTheFirstOne(t *testing.T) { // 22.1, 22.2
	r := rig.New(1, 12, 9, Do)
	r.M.Mem().Store(plan.Clock, 4)
	told, _ := r.Alone(0, most, Insert, 5, word.Bits(-1))
	if told != [12]uint64{api.Done} || r.M.Guard().Held() != 7 || !r.M.Guard().Leads(6) || !r.M.Guard().Leads(7) {
		t.Fatalf("Insert tells %v", told)
	}
	for field, want := range map[int]uint64{plan.Info: 1, plan.Key: 5, plan.Value: math.MaxUint64, plan.Born: 4, plan.Died: 0} {
		if got := r.M.Read(6, field); got != want {
			t.Errorf("field %d of the leaf is %d", field, got)
		}
	}
	for field, want := range map[int]uint64{plan.Info: order.Info(false, 1), plan.Key: 0, plan.Left: 6, plan.Right: 3} {
		if got := r.M.Read(7, field); got != want {
			t.Errorf("field %d of the inner node is %d", field, got)
		}
	}
	if r.M.Read(2, plan.Left) != 7 || r.M.Fault() {
		t.Error("the inner node is in the tree")
	}
}

func TestTheMapAlone(t *testing.T) { // 22.2
	d := rig.Dice(8)
	r := rig.New(1, 60, 9, Do)
	var want []int64
	for range 200 {
		key := []int64{math.MinInt64, math.MaxInt64, int64(d.Below(40)) - 20}[min(2, d.Below(12))]
		there := slices.Contains(want, key)
		free := 60 - 5 - 2*len(want)
		kind := ins(r, key, int64(d.Below(9)))
		switch {
		case there && kind != api.Exists, !there && free >= 2 && kind != api.Done, !there && free < 2 && kind != api.Full:
			t.Fatalf("Insert of %d tells %d", key, kind)
		}
		if kind == api.Done {
			want = append(want, key)
			slices.Sort(want)
		}
		if !slices.Equal(rig.Keys(r.M), want) || rig.Rest(r.M) != "" {
			t.Fatalf("the keys are %v, not %v: %s", rig.Keys(r.M), want, rig.Rest(r.M))
		}
	}
	leaf, _ := rig.Leaf(r.M, want[3])
	was := r.M.Read(leaf.Edge, plan.Value)
	if ins(r, want[3], 77) != api.Exists || r.M.Read(leaf.Edge, plan.Value) != was {
		t.Error("a key that is there keeps its value")
	}
}

func TestFull(t *testing.T) { // 22.1, 22.2
	for slots := 7; slots <= 10; slots++ {
		r := rig.New(1, slots, 9, Do)
		for i := range int64(3) {
			want := uint64(api.Done)
			if int(i) >= (slots-5)/2 {
				want = api.Full
			}
			if kind := ins(r, i, 1); kind != want || rig.Rest(r.M) != "" {
				t.Errorf("Insert %d of %d slots tells %d; %s", i, slots, kind, rig.Rest(r.M))
			}
		}
		if ins(r, 0, 1) != api.Exists {
			t.Error("a key that is there is told Exists, though there is no slot")
		}
	}
}

func TestOfADeadKey(t *testing.T) { // 22.1, 22.2
	for _, flagged := range []bool{false, true} {
		for _, key := range []int64{1, 2, 3, 4, 5} {
			r := rig.New(1, 40, 9, Do)
			for _, k := range []int64{3, 1, 5, 2, 4} {
				ins(r, k, 1)
			}
			dies(r, key, flagged)
			if ins(r, key, 2) != api.Done || !slices.Equal(rig.Keys(r.M), []int64{1, 2, 3, 4, 5}) || rig.Marks(r.M) != 0 || r.M.Fault() {
				t.Errorf("a dead key %d is put in again", key)
			}
			if leaf, _ := rig.Leaf(r.M, key); r.M.Read(leaf.Edge, plan.Value) != 2 {
				t.Error("its value is the new one")
			}
		}
	}
}

func TestHelpAtThePlace(t *testing.T) { // 22.1
	r := rig.New(1, 40, 9, Do)
	for _, k := range []int64{3, 1, 5} {
		ins(r, k, 1)
	}
	dies(r, 3, true)
	if ins(r, 4, 1) != api.Done || !slices.Equal(rig.Keys(r.M), []int64{1, 4, 5}) || rig.Marks(r.M) != 0 || r.M.Fault() {
		t.Errorf("a flagged leaf at the place is taken out: %v", rig.Keys(r.M))
	}
	if _, there := rig.Leaf(r.M, 3); there {
		t.Error("the dead leaf is left")
	}
}

// until does steps of a thread's Insert till it goes on there.
func until(r *rig.Rig, t, pc int) {
	for f := r.M.Thread(t).Top(); f.Fn != Insert || f.PC != pc; f = r.M.Thread(t).Top() {
		r.M.Step(t, Do)
	}
}

func TestWhenTheClockGoesOn(t *testing.T) { // 22.1
	r := rig.New(1, 12, 9, Do)
	r.M.Thread(0).Call(Insert, 5, 1)
	until(r, 0, insertDecide)
	r.M.Mem().Add(plan.Clock, 1)
	r.M.Step(0, Do)
	if r.M.Read(2, plan.Left) != 3 {
		t.Fatal("the clock is not that any more")
	}
	for r.M.Step(0, Do) {
	}
	if leaf, ok := rig.Leaf(r.M, 5); !ok || r.M.Read(leaf.Edge, plan.Born) != 2 || r.M.Thread(0).Ret[0] != api.Done {
		t.Error("the clock is read anew")
	}
}

func TestWhenAnotherOneIsFaster(t *testing.T) { // 22.1
	for _, key := range []int64{5, 6} {
		r := rig.New(2, 12, 9, Do)
		r.M.Thread(0).Call(Insert, 5, 1)
		until(r, 0, insertDecide)
		told, _ := r.Alone(1, most, Insert, word.Bits(key), 2)
		for r.M.Step(0, Do) {
		}
		want := map[int64]uint64{5: api.Exists, 6: api.Done}[key]
		if told[0] != api.Done || r.M.Thread(0).Ret != [12]uint64{want} || rig.Rest(r.M) != "" {
			t.Errorf("told are %d and %d; %s", told[0], r.M.Thread(0).Ret[0], rig.Rest(r.M))
		}
	}
}

func TestWhateverTheTurns(t *testing.T) { // 22.2
	d := rig.Dice(21)
	for i := range 250 {
		threads := 1 + i%6
		slots := []int{250, 40, 25}[i%3]
		r := rig.New(threads, slots, 9, Do)
		done := map[int64]int{}
		for th := range threads {
			for range 5 {
				key := int64(d.Below(12))
				r.Add(th, rig.Job{Fn: epoch.Enter}, rig.Job{Fn: Insert, R: []uint64{word.Bits(key), 1}, Then: func(told [12]uint64) {
					if told[0] == api.Done {
						done[key]++
					}
					if told[0] == api.Full && slots == 250 {
						t.Error("Full of so many slots")
					}
				}}, rig.Job{Fn: epoch.Leave})
			}
		}
		r.After = func() {
			if r.M.Fault() {
				t.Fatal("the machine is at fault")
			}
		}
		if !r.Play(&d, 400000) {
			t.Fatal("somebody comes to no end")
		}
		var want []int64
		for key, n := range done {
			if n > 1 {
				t.Errorf("%d is told Done %d times", key, n)
			}
			want = append(want, key)
		}
		slices.Sort(want)
		if !slices.Equal(rig.Keys(r.M), want) || rig.Rest(r.M) != "" {
			t.Fatalf("the keys are %v, not %v; %s", rig.Keys(r.M), want, rig.Rest(r.M))
		}
	}
}

func TestOtherRoutines(t *testing.T) { // 22.1
	r := rig.New(1, 8, 9, Do)
	if told, _ := r.Alone(0, 99, seek.Seek, 5); told[5] != 3 {
		t.Error("Seek is done")
	}
	if told, _ := r.Alone(0, 99, slotting.Take); edge.Edge(told[0]) != 6 {
		t.Error("Take is done")
	}
	if fn, is := r.DoesNone(0, 49, 51, 60); !is {
		t.Errorf("routine %d is done", fn)
	}
}
