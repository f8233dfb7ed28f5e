package limbo

import (
	"slices"
	"testing"

	"deadwood/badge"
	"deadwood/core"
	"deadwood/edge"
	"deadwood/epoch"
	"deadwood/plan"
	"deadwood/rig"
	slotting "deadwood/slots"
)

// bag is the edges of a bag's list.
func bag(m *core.Machine, t, b int) []edge.Edge {
	var l []edge.Edge
	w := m.Mem().Words()
	for e := edge.Edge(w[m.Plan().Bag(t, b)]); e != 0 && !slices.Contains(l, e); e = edge.Edge(w[m.Plan().Node(e.Slot(), plan.Link)]) {
		l = append(l, e)
	}
	return l
}

func stamp(m *core.Machine, t, b int) uint64 { return m.Mem().Words()[m.Plan().Stamp(t, b)] }

func now(m *core.Machine) uint64 { return m.Mem().Words()[plan.Epoch] }

func take(r *rig.Rig, t int) uint64 {
	told, _ := r.Alone(t, 9, slotting.Take)
	return told[0]
}

func TestRetireDrainClean(t *testing.T) { // 19.1, 19.2
	r := rig.New(2, 14, 9, Do)
	var took []edge.Edge
	for range 5 {
		took = append(took, edge.Edge(take(r, 1)))
	}
	told, _ := r.Alone(1, 50, Retire, uint64(took[0].Flagged().Tagged()))
	if told != [12]uint64{} || stamp(r.M, 1, 0) != 3 || !slices.Equal(bag(r.M, 1, 0), took[:1]) {
		t.Fatalf("Retire: bag 0 has %v, of stamp %d", bag(r.M, 1, 0), stamp(r.M, 1, 0))
	}
	r.Alone(1, 50, Retire, uint64(took[1]))
	if !slices.Equal(bag(r.M, 1, 0), []edge.Edge{took[1], took[0]}) || r.M.Guard().Held() != 10 {
		t.Fatalf("what was retired last is first: %v", bag(r.M, 1, 0))
	}
	r.Alone(0, 50, epoch.Advance)
	r.Alone(1, 50, Retire, uint64(took[2]))
	if !slices.Equal(bag(r.M, 1, 1), took[2:3]) || stamp(r.M, 1, 1) != 4 || len(bag(r.M, 1, 2)) != 0 || len(bag(r.M, 0, 1)) != 0 {
		t.Fatal("epoch 4 has bag 1")
	}
	r.Alone(0, 50, epoch.Advance)
	r.Alone(1, 200, Clean)
	if len(bag(r.M, 1, 0)) != 2 || r.M.Guard().Held() != 10 {
		t.Error("stamp 3 is not old at 5")
	}
	r.Alone(0, 50, epoch.Advance)
	r.Alone(0, 200, Clean)
	if len(bag(r.M, 1, 0)) != 2 {
		t.Error("a thread cleans its own bags")
	}
	r.Alone(1, 200, Clean)
	if len(bag(r.M, 1, 0)) != 0 || len(bag(r.M, 1, 1)) != 1 || r.M.Guard().Held() != 8 || stamp(r.M, 1, 0) != 3 {
		t.Error("stamp 3 is old at 6, stamp 4 is not")
	}
	if told, _ = r.Alone(1, 200, Drain, 1); told != [12]uint64{} || len(bag(r.M, 1, 1)) != 0 || r.M.Guard().Held() != 7 {
		t.Error("Drain")
	}
	if r.M.Guard().Leads(took[0]) || r.M.Guard().Leads(took[2]) || !r.M.Guard().Leads(took[3]) || r.M.Fault() {
		t.Error("what was given back")
	}
}

func TestRetireDrainsAnElderStamp(t *testing.T) { // 19.1, 19.2
	r := rig.New(1, 14, 9, Do)
	one, two, three := take(r, 0), take(r, 0), take(r, 0)
	r.Alone(0, 50, Retire, one)
	r.Alone(0, 50, Retire, two)
	for range 3 {
		r.Alone(0, 50, epoch.Advance)
	}
	r.Alone(0, 200, Retire, three)
	if !slices.Equal(bag(r.M, 0, 0), []edge.Edge{edge.Edge(three)}) || stamp(r.M, 0, 0) != 6 || r.M.Guard().Held() != 6 || r.M.Fault() {
		t.Error("the bag is drained, then its stamp becomes the epoch")
	}
	if first := take(r, 0); edge.Edge(first) != edge.Make(edge.Edge(one).Slot(), 1) {
		t.Error("the first one of the list is given back first")
	}
}

func TestOfAnEmptyListNothingIsWritten(t *testing.T) { // 19.1
	r := rig.New(1, 14, 9, Do)
	was := r.M.Mem().Words()
	for b := range uint64(3) {
		r.Alone(0, 50, Drain, b)
	}
	r.Alone(0, 50, Clean)
	if !slices.Equal(r.M.Mem().Words(), was) {
		t.Error("something is written")
	}
	before := r.M.Mem().Accesses()
	if r.Alone(0, 50, Drain, 1); r.M.Mem().Accesses() != before+1 {
		t.Error("of an empty list the head is read, and that is all")
	}
	if r.Alone(0, 50, Clean); r.M.Mem().Accesses() != before+1+7 {
		t.Error("the epoch is read, and of each bag the stamp and the head")
	}
	if r.M.Fault() {
		t.Error("the machine is at fault")
	}
}

func TestOtherRoutines(t *testing.T) { // 19.1
	r := rig.New(1, 8, 9, Do)
	if told, _ := r.Alone(0, 9, epoch.Advance); told[0] != 1 || take(r, 0) != 6 {
		t.Error("routines of the layers below are done")
	}
	if fn, is := r.DoesNone(0, 19, 23, 30); !is {
		t.Errorf("routine %d is done", fn)
	}
}

// TestWhateverTheTurns has threads take, retire what they took, clean, and have the epoch go on.
func TestWhateverTheTurns(t *testing.T) { // 19.2
	d := rig.Dice(11)
	for i := range 200 {
		threads := 1 + i%6
		slots := 9 + i%30
		r := rig.New(threads, slots, 9, Do)
		retired := map[edge.Edge]uint64{} // and when
		who := map[edge.Edge]int{}
		left := 40 * threads
		had := make([][]uint64, threads)
		var more func(th int)
		next := func(th int) {
			if left--; left > 0 {
				more(th)
			}
		}
		more = func(th int) {
			switch n := d.Below(8); {
			case n < 3:
				r.Add(th, rig.Job{Fn: slotting.Take, Then: func(told [12]uint64) {
					if told[0] != 0 {
						had[th] = append(had[th], told[0])
					}
					next(th)
				}})
			case n < 5 && len(had[th]) > 0:
				e := had[th][0]
				had[th] = had[th][1:]
				r.Add(th, rig.Job{Fn: Retire, R: []uint64{e}, First: func() {
					retired[edge.Edge(e)], who[edge.Edge(e)] = now(r.M), th
				}, Then: func([12]uint64) { next(th) }})
			case n < 7:
				r.Add(th, rig.Job{Fn: epoch.Advance, Then: func([12]uint64) { next(th) }})
			default:
				var at uint64
				r.Add(th, rig.Job{Fn: Clean, First: func() { at = now(r.M) }, Then: func([12]uint64) {
					for b := range 3 {
						if len(bag(r.M, th, b)) > 0 && badge.Old(stamp(r.M, th, b), at) {
							t.Error("behind Clean a bag's stamp is old")
						}
					}
					next(th)
				}})
			}
		}
		for th := range threads {
			more(th)
		}
		r.After = func() {
			if r.M.Fault() {
				t.Fatal("the machine is at fault")
			}
			for e, at := range retired {
				if r.M.Guard().Leads(e) {
					continue
				}
				if now(r.M) < at+3 {
					t.Fatalf("%d was retired at %d, and given back at %d", e, at, now(r.M))
				}
				if f := r.M.Thread(who[e]).Top(); f == nil || f.Fn != slotting.Give {
					t.Fatal("another thread gave it back")
				}
				delete(retired, e)
			}
		}
		if !r.Play(&d, 200000) {
			t.Fatal("somebody comes to no end")
		}
		held := 5
		for th := range threads {
			held += len(had[th])
			for b := range 3 {
				held += len(bag(r.M, th, b))
			}
		}
		if r.M.Guard().Held() != held {
			t.Errorf("%d are held, not %d", r.M.Guard().Held(), held)
		}
	}
}
