package clock

import (
	"math"
	"slices"
	"testing"

	"deadwood/api"
	"deadwood/edge"
	"deadwood/find"
	"deadwood/plan"
	"deadwood/rig"
	"deadwood/rig/chore"
)

func now(r *rig.Rig) uint64 { return r.M.Mem().Words()[plan.Clock] }

func TestThere(t *testing.T) { // 25.1
	const m = uint64(math.MaxUint64)
	for _, c := range []struct {
		v, born, died uint64
		want          bool
	}{
		{5, 5, 0, true}, {5, 4, 0, true}, {5, 6, 0, false}, {5, 5, 6, true}, {5, 5, 5, false}, {5, 3, 4, false}, {5, 6, 7, false},
		{0, 0, 0, true}, {0, 0, 1, true}, {0, 1, 0, false}, {m, m, 0, true}, {m, 1, m, false}, {m - 1, 1, m, true},
	} {
		if There(c.v, c.born, c.died) != c.want {
			t.Errorf("There(%d, %d, %d)", c.v, c.born, c.died)
		}
	}
}

func TestTickAlone(t *testing.T) { // 25.1, 25.2
	r := rig.New(2, 8, 4, Do)
	for want := uint64(1); want < 4; want++ {
		told, _ := r.Alone(1, 9, Tick)
		if told != [12]uint64{want} || now(r) != want+1 || r.M.Thread(1).Session.V != want || r.M.Thread(0).Session.V != 0 {
			t.Fatalf("Tick tells %v", told)
		}
	}
	for range 2 {
		if told, _ := r.Alone(1, 9, Tick); told != [12]uint64{} || now(r) != 4 || r.M.Thread(1).Session.V != 3 {
			t.Fatalf("Tick of a clock that is Stamps tells %v", told)
		}
	}
	r.M.Mem().Store(plan.Clock, 9)
	if told, _ := r.Alone(0, 9, Tick); told != [12]uint64{} || now(r) != 9 {
		t.Error("Tick of a clock above Stamps")
	}
	r = rig.New(1, 8, 1, Do)
	if told, _ := r.Alone(0, 9, Tick); told != [12]uint64{} || now(r) != 1 || r.M.Fault() {
		t.Error("Tick of Stamps 1")
	}
}

func TestTickThatFails(t *testing.T) { // 25.1
	r := rig.New(2, 8, 9, Do)
	r.M.Thread(0).Call(Tick)
	r.M.Step(0, Do)
	r.Alone(1, 9, Tick)
	for r.M.Step(0, Do) {
	}
	if r.M.Thread(0).Ret[0] != 2 || r.M.Thread(0).Session.V != 2 || now(r) != 3 {
		t.Errorf("the clock is read anew, told is %d", r.M.Thread(0).Ret[0])
	}
}

func TestEachTimeIsToldOnce(t *testing.T) { // 25.2
	d := rig.Dice(4)
	for i := range 100 {
		threads := 1 + i%6
		stamps := uint64(1 + i%30)
		r := rig.New(threads, 8, stamps, Do)
		var told []uint64
		for th := range threads {
			for range 6 {
				r.Add(th, rig.Job{Fn: Tick, Then: func(ret [12]uint64) {
					if ret[0] != 0 {
						told = append(told, ret[0])
					} else if now(r) < stamps {
						t.Error("0 is told, though there are times")
					}
				}})
			}
		}
		if !r.Play(&d, 99999) || r.M.Fault() {
			t.Fatal("somebody comes to no end, or the machine is at fault")
		}
		slices.Sort(told)
		if len(told) != min(6*threads, int(stamps)-1) {
			t.Errorf("%d times are told", len(told))
		}
		for n, v := range told {
			if v != uint64(n+1) || v >= stamps {
				t.Errorf("told are %v", told)
				break
			}
		}
	}
}

// leaf is a leaf that was in the tree at some time.
type leaf struct {
	key        int64
	born, died uint64
}

func TestWhatIsThereAtATime(t *testing.T) { // 25.2
	d := rig.Dice(6)
	for i := range 150 {
		threads := 2 + i%4
		r := rig.New(threads, 60, 1000, Do)
		for th := range threads {
			for range 12 {
				chore.Some(r, &d, th, 1+i%5)
				r.Add(th, rig.Job{Fn: Tick})
			}
		}
		all := map[edge.Edge]leaf{}
		was := map[uint64][]int64{} // the keys of the map when a time was told
		last := now(r)
		r.After = func() {
			for _, n := range rig.Tree(r.M) {
				if n.Leaf && n.Key.Class == 0 {
					all[n.Edge.Node()] = leaf{n.Key.N, n.Born, n.Died}
				}
			}
			if now(r) != last {
				was[last] = rig.Keys(r.M)
				last = now(r)
			}
		}
		if !r.Play(&d, 400000) || r.M.Fault() {
			t.Fatal("somebody comes to no end, or the machine is at fault")
		}
		for v, want := range was {
			var got []int64
			for _, l := range all {
				if There(v, l.born, l.died) {
					got = append(got, l.key)
				}
			}
			slices.Sort(got)
			if !slices.Equal(got, want) {
				t.Fatalf("at %d there are %v, not %v", v, got, want)
			}
		}
	}
}

func TestOtherRoutines(t *testing.T) { // 25.1
	r := rig.New(1, 8, 9, Do)
	if told := chore.Alone(r, 0, api.Call{Op: api.Insert, Key: 5}); told.Kind != api.Done {
		t.Error("Insert is done")
	}
	if told, _ := r.Alone(0, 99, find.Find, 5); told[0] != api.Found {
		t.Error("Find is done")
	}
	if fn, is := r.DoesNone(0, 59, 61, 70); !is {
		t.Errorf("routine %d is done", fn)
	}
}
