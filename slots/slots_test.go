package slots

import (
	"slices"
	"testing"

	"deadwood/badge"
	"deadwood/core"
	"deadwood/edge"
	"deadwood/plan"
	"deadwood/rig"
)

// free is the free list, as far as it has each slot once.
func free(m *core.Machine) []int {
	var l []int
	w := m.Mem().Words()
	for s := badge.Slot(w[plan.Free]); s != 0 && !slices.Contains(l, s); s = int(w[m.Plan().Node(s, plan.Link)]) {
		l = append(l, s)
	}
	return l
}

func TestTakeAndGiveAlone(t *testing.T) { // 17.1
	r := rig.New(1, 8, 9, Do)
	head := r.M.Mem().Words()[plan.Free]
	for _, want := range []uint64{6, 7, 8} {
		told, steps := r.Alone(0, 9, Take)
		if told != [12]uint64{want} || steps > 4 || !r.M.Guard().Leads(edge.Edge(want)) {
			t.Fatalf("Take tells %v within %d steps", told, steps)
		}
		head = badge.Changed(head, (int(want)+1)%9)
		if r.M.Mem().Words()[plan.Free] != head {
			t.Error("the head was changed once more")
		}
	}
	if told, steps := r.Alone(0, 9, Take); told != [12]uint64{} || steps > 4 || r.M.Guard().Held() != 8 {
		t.Error("Take of an empty list")
	}
	for i, e := range []edge.Edge{7, 6} {
		told, steps := r.Alone(0, 9, Give, uint64(e))
		head = badge.Changed(head, e.Slot())
		w := r.M.Mem().Words()
		if told != [12]uint64{} || steps > 4 || w[plan.Free] != head || r.M.Guard().Held() != 7-i {
			t.Fatalf("Give of %d, within %d steps", e, steps)
		}
		if w[r.M.Plan().Node(e.Slot(), plan.Gen)] != 1 || r.M.Guard().Edge(e.Slot()) != edge.Make(e.Slot(), 1) {
			t.Error("its Gen becomes one more")
		}
	}
	if !slices.Equal(free(r.M), []int{6, 7}) {
		t.Errorf("free are %v", free(r.M))
	}
	if told, _ := r.Alone(0, 9, Take); edge.Edge(told[0]) != edge.Make(6, 1) || r.M.Fault() {
		t.Error("a slot that was given back is taken, of its generation")
	}
}

func TestNothingElseIsDone(t *testing.T) { // 17.1
	Do(nil, 0)
	r := rig.New(1, 8, 9, Do)
	was := r.M.Mem().Words()
	for _, i := range []int{-1, 0, 1} {
		Do(r.M, i)
	}
	for _, fn := range []int{0, 3, 10, -1} {
		r.M.Thread(0).Call(fn, 6)
		for range 5 {
			Do(r.M, 0)
		}
		if f := r.M.Thread(0).Top(); f.Fn != fn || f.PC != 0 {
			t.Errorf("routine %d is done", fn)
		}
		r.M.Thread(0).Back()
	}
	if !slices.Equal(r.M.Mem().Words(), was) || r.M.Mem().Accesses() != 0 || r.M.Fault() {
		t.Error("something is done")
	}
}

func TestGenWrapsRound(t *testing.T) { // 17.1
	r := rig.New(1, 8, 9, Do)
	e := edge.Make(6, 1<<50-1)
	r.Alone(0, 9, Take)
	r.Alone(0, 9, Give, 6)
	if w := r.M.Mem().Words()[r.M.Plan().Node(6, plan.Gen)]; w != 1 {
		t.Errorf("Gen is %d", w)
	}
	r.Alone(0, 9, Take)
	r.M.Thread(0).Call(Give, uint64(e)) // such an edge leads nowhere now: the machine is at fault
	r.M.Step(0, Do)
	if !r.M.Fault() {
		t.Error("what isn't held is given back")
	}
}

// churn has threads take slots, and give back what they took, whatever the turns.
func churn(t *testing.T, d *rig.Dice, threads, slots, rounds int) {
	r := rig.New(threads, slots, 9, Do)
	had := make([][]uint64, threads)
	empty := make([]bool, threads) // was the list empty at some step within Take?
	var more func(i int)
	more = func(i int) {
		if len(had[i]) > 0 && d.Below(2) == 0 {
			at := d.Below(len(had[i]))
			e := had[i][at]
			had[i] = slices.Delete(had[i], at, at+1)
			r.Add(i, rig.Job{Fn: Give, R: []uint64{e}, Then: func([12]uint64) {
				if rounds--; rounds > 0 {
					more(i)
				}
			}})
			return
		}
		r.Add(i, rig.Job{Fn: Take, First: func() { empty[i] = len(free(r.M)) == 0 }, Then: func(told [12]uint64) {
			if told[0] == 0 && !empty[i] {
				t.Error("Take tells 0 of a list that was never empty")
			}
			if told[0] != 0 {
				had[i] = append(had[i], told[0])
			}
			if rounds--; rounds > 0 {
				more(i)
			}
		}})
	}
	for i := range threads {
		more(i)
	}
	r.After = func() {
		if badge.Slot(r.M.Mem().Words()[plan.Free]) == 0 {
			for i := range empty {
				empty[i] = true
			}
		}
		if r.M.Fault() {
			t.Fatal("the machine is at fault")
		}
	}
	if !r.Play(d, 100000) {
		t.Fatal("somebody comes to no end")
	}
	seen := map[int]bool{}
	all := append(free(r.M), 1, 2, 3, 4, 5)
	for _, l := range had {
		for _, e := range l {
			if !r.M.Guard().Leads(edge.Edge(e)) {
				t.Error("what was taken is held")
			}
			all = append(all, edge.Edge(e).Slot())
		}
	}
	for _, s := range all {
		if seen[s] {
			t.Errorf("slot %d is there twice", s)
		}
		seen[s] = true
	}
	if len(all) != slots || r.M.Guard().Held() != slots-len(free(r.M)) {
		t.Errorf("%d slots are held or free", len(all))
	}
}

func TestWhateverTheTurns(t *testing.T) { // 17.2
	d := rig.Dice(3)
	for i := range 300 {
		churn(t, &d, 1+i%6, 7+i%5, 60)
	}
}
