package remove

import (
	"math"
	"slices"
	"testing"

	"deadwood/api"
	"deadwood/edge"
	"deadwood/epoch"
	inserting "deadwood/insert"
	"deadwood/limbo"
	"deadwood/lin"
	"deadwood/plan"
	"deadwood/rig"
	"deadwood/seek"
	"deadwood/word"
)

const most = 9999

func forest(keys ...int64) *rig.Rig {
	r := rig.New(2, 80, 9, Do)
	for _, k := range keys {
		rig.Plant(r.M, k, -k, 1)
	}
	return r
}

func victim(r *rig.Rig, t int) uint64 { return r.M.Mem().Words()[r.M.Plan().Victim(t)] }

// until does steps of a thread's Remove till it goes on there.
func until(r *rig.Rig, t, pc int) {
	for f := r.M.Thread(t).Top(); f.Fn != Remove || f.PC != pc; f = r.M.Thread(t).Top() {
		r.M.Step(t, Do)
	}
}

func end(r *rig.Rig, t int) [12]uint64 {
	for r.M.Step(t, Do) {
	}
	return r.M.Thread(t).Ret
}

var keys = []int64{50, 20, 80, 10, 30, 70, 90, 25, 35, math.MinInt64, math.MaxInt64, -1}

func TestTheExample(t *testing.T) { // 23.1
	r := rig.New(1, 9, 9, Do)
	first := rig.Tree(r.M)
	r.Alone(0, most, inserting.Insert, 5, 1)
	told, _ := r.Alone(0, most, Remove, 5)
	if told != [12]uint64{api.Found, 1} || !slices.Equal(rig.Tree(r.M), first) || rig.Rest(r.M) != "" {
		t.Errorf("Remove tells %v; %s", told, rig.Rest(r.M))
	}
}

func TestAlone(t *testing.T) { // 23.1, 23.2
	for _, key := range keys {
		r := forest(keys...)
		held := r.M.Guard().Held()
		leaf, _ := rig.Leaf(r.M, key)
		r.M.Mem().Store(plan.Clock, 6)
		told, _ := r.Alone(0, most, Remove, word.Bits(key))
		want := slices.Clone(keys)
		slices.Sort(want)
		want = slices.DeleteFunc(want, func(k int64) bool { return k == key })
		if told != [12]uint64{api.Found, word.Bits(-key)} || !slices.Equal(rig.Keys(r.M), want) || victim(r, 0) != 0 {
			t.Errorf("Remove of %d tells %v", key, told)
		}
		if r.M.Read(leaf.Edge, plan.Died) != 6 || r.M.Guard().Held() != held || rig.Rest(r.M) != "" {
			t.Errorf("the leaf of %d is put away, and died at 6; %s", key, rig.Rest(r.M))
		}
		w := r.M.Mem().Words()
		if edge.Edge(w[r.M.Plan().Bag(0, 0)]) != leaf.Edge.Node() {
			t.Error("the leaf is what is retired last")
		}
		was := r.M.Mem().Words()
		if told, _ = r.Alone(0, most, Remove, word.Bits(key)); told != [12]uint64{api.None} || !slices.Equal(r.M.Mem().Words(), was) {
			t.Errorf("Remove of %d, that isn't there, tells %v", key, told)
		}
	}
}

func TestOfADeadLeaf(t *testing.T) { // 23.1, 23.2
	r := forest(keys...)
	leaf, _ := rig.Leaf(r.M, 25)
	r.M.Write(leaf.Edge, plan.Died, 1)
	was := r.M.Mem().Words()
	r.M.Thread(0).Call(Remove, 25)
	for r.M.Step(0, Do) {
		if victim(r, 0) != 0 {
			t.Fatal("a dead leaf is announced")
		}
	}
	if told := r.M.Thread(0).Ret; told != [12]uint64{api.None} || !slices.Equal(r.M.Mem().Words(), was) {
		t.Errorf("Remove of a dead leaf tells %v", told)
	}
}

func TestWhatIsAnnouncedIsPlain(t *testing.T) { // 23.1
	for _, marks := range []edge.Edge{edge.Edge(0).Flagged(), edge.Edge(0).Tagged()} {
		r := forest(keys...)
		leaf, _ := rig.Leaf(r.M, 25)
		r.M.Write(leaf.Parent, plan.Left+leaf.Side, uint64(leaf.Edge|marks))
		r.M.Thread(1).Call(Remove, 25)
		until(r, 1, removeClock)
		if victim(r, 1) != uint64(leaf.Edge) {
			t.Errorf("announced is %x", victim(r, 1))
		}
	}
}

func TestWhatIsAnnounced(t *testing.T) { // 23.1
	r := forest(keys...)
	leaf, _ := rig.Leaf(r.M, 25)
	r.M.Thread(1).Call(Remove, 25)
	until(r, 1, removeClock)
	if victim(r, 1) != uint64(leaf.Edge.Node()) || r.M.Read(leaf.Edge, plan.Died) != 0 {
		t.Error("the leaf is announced ahead of its death")
	}
	until(r, 1, removeRetired)
	for f := r.M.Thread(1).Top(); f.Fn != Remove; f = r.M.Thread(1).Top() {
		if victim(r, 1) != uint64(leaf.Edge.Node()) {
			t.Fatal("the leaf is announced till it is put away")
		}
		r.M.Step(1, Do)
	}
	if victim(r, 1) == 0 {
		t.Error("the leaf is announced till it is put away")
	}
	if end(r, 1) != [12]uint64{api.Found, word.Bits(-25)} || victim(r, 1) != 0 {
		t.Error("nothing is announced any more")
	}
}

func TestWhenTheClockGoesOn(t *testing.T) { // 23.1
	r := forest(keys...)
	leaf, _ := rig.Leaf(r.M, 25)
	r.M.Thread(0).Call(Remove, 25)
	until(r, 0, removeDecide)
	r.M.Mem().Add(plan.Clock, 1)
	r.M.Step(0, Do)
	if r.M.Read(leaf.Edge, plan.Died) != 0 {
		t.Fatal("the clock is not that any more")
	}
	if told := end(r, 0); told != [12]uint64{api.Found, word.Bits(-25)} || r.M.Read(leaf.Edge, plan.Died) != 2 {
		t.Error("the clock is read anew")
	}
}

func TestWhenAnotherOneIsFaster(t *testing.T) { // 23.1
	r := forest(keys...)
	r.M.Thread(0).Call(Remove, 25)
	until(r, 0, removeDecide)
	if told, _ := r.Alone(1, most, Remove, 25); told[0] != api.Found {
		t.Error("the faster one")
	}
	if told := end(r, 0); told != [12]uint64{api.None} || victim(r, 0) != 0 || rig.Rest(r.M) != "" {
		t.Errorf("the slower one is told %v; %s", told, rig.Rest(r.M))
	}
}

func TestHelpedByAnotherOne(t *testing.T) { // 23.1
	r := forest(keys...)
	r.M.Thread(0).Call(Remove, 25)
	until(r, 0, removeValue)
	if told, _ := r.Alone(1, most, inserting.Insert, 25, 8); told[0] != api.Done {
		t.Error("a dead key is put in")
	}
	if told := end(r, 0); told != [12]uint64{api.Found, word.Bits(-25)} || len(rig.Keys(r.M)) != len(keys) || rig.Rest(r.M) != "" {
		t.Errorf("who took it out is told %v; %s", told, rig.Rest(r.M))
	}
}

// call is a job that is an oper of the rig's history, within Enter and Leave.
func call(r *rig.Rig, th int, c api.Call) {
	job := rig.Job{Fn: inserting.Insert, R: []uint64{word.Bits(c.Key), word.Bits(c.Val)}}
	if c.Op == api.Delete {
		job = rig.Job{Fn: Remove, R: []uint64{word.Bits(c.Key)}}
	}
	answer := func(told [12]uint64) api.Answer {
		if told[0] == api.Found {
			return api.Answer{Kind: api.Found, Key: c.Key, Val: word.Signed(told[1])}
		}
		return api.Answer{Kind: int(told[0])}
	}
	r.Add(th, rig.Job{Fn: epoch.Enter}, r.Logged(th, c, job, answer), rig.Job{Fn: epoch.Leave})
}

func TestWhateverTheTurns(t *testing.T) { // 23.2
	d := rig.Dice(23)
	for i := range 500 {
		threads := 1 + i%6
		keys := 1 + i%3
		r := rig.New(threads, []int{250, 40, 30}[i%3], 9, Do)
		for th := range threads {
			r.Told(th, api.Call{Op: api.Join}, api.Answer{})
			for range 40 / threads {
				call(r, th, api.Call{Op: d.Below(2), Key: int64(d.Below(keys)), Val: int64(d.Below(9))})
				if d.Below(4) == 0 {
					r.Add(th, rig.Job{Fn: epoch.Advance}, rig.Job{Fn: limbo.Clean})
				}
			}
		}
		r.After = func() {
			if r.M.Fault() {
				t.Fatal("the machine is at fault")
			}
		}
		if !r.Play(&d, 400000) {
			t.Fatal("somebody comes to no end")
		}
		if wrong := rig.Rest(r.M); wrong != "" {
			t.Fatal(wrong)
		}
		if !lin.Linear(r.Events) {
			t.Fatalf("game %d: no order explains what was told", i)
		}
	}
}

func TestOtherRoutines(t *testing.T) { // 23.1
	r := rig.New(1, 8, 9, Do)
	if told, _ := r.Alone(0, 99, seek.Seek, 5); told[5] != 3 {
		t.Error("Seek is done")
	}
	if told, _ := r.Alone(0, 99, inserting.Insert, 5); told[0] != api.Done {
		t.Error("Insert is done")
	}
	if fn, is := r.DoesNone(0, 49, 52, 60); !is {
		t.Errorf("routine %d is done", fn)
	}
}
