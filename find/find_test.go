package find

import (
	"math"
	"slices"
	"testing"

	"deadwood/api"
	"deadwood/core"
	"deadwood/epoch"
	inserting "deadwood/insert"
	"deadwood/limbo"
	"deadwood/lin"
	"deadwood/plan"
	removing "deadwood/remove"
	"deadwood/rig"
	"deadwood/seek"
	"deadwood/word"
)

const most = 9999

var keys = []int64{50, 20, 80, 10, 30, 70, 90, 25, 35, math.MinInt64, math.MaxInt64, -1}

func TestAlone(t *testing.T) { // 24.1, 24.2
	r := rig.New(1, 40, 9, Do)
	for i := 0; i <= len(keys); i++ {
		was := r.M.Mem().Words()
		for j, key := range append(slices.Clone(keys), 0, 55) {
			told, steps := r.Alone(0, most, Find, word.Bits(key))
			want := [12]uint64{api.None}
			if j < i {
				want = [12]uint64{api.Found, word.Bits(-key)}
			}
			if told != want || steps > 3*40+9 {
				t.Errorf("Find of %d tells %v within %d steps", key, told, steps)
			}
		}
		if !slices.Equal(r.M.Mem().Words(), was) || r.M.Fault() {
			t.Fatal("Find changes a word")
		}
		if i < len(keys) {
			rig.Plant(r.M, keys[i], -keys[i], 1)
		}
	}
	leaf, _ := rig.Leaf(r.M, 25)
	r.M.Write(leaf.Edge, plan.Died, 1)
	if told, _ := r.Alone(0, most, Find, 25); told != [12]uint64{api.None} {
		t.Error("a dead leaf is found")
	}
	if told, _ := r.Alone(0, most, Find, 35); told[0] != api.Found {
		t.Error("other leaves are found")
	}
}

// call is a job that is an oper of the rig's history, within Enter and Leave.
func call(r *rig.Rig, th int, c api.Call) {
	key := word.Bits(c.Key)
	job := map[int]rig.Job{
		api.Insert: {Fn: inserting.Insert, R: []uint64{key, word.Bits(c.Val)}},
		api.Delete: {Fn: removing.Remove, R: []uint64{key}},
		api.Lookup: {Fn: Find, R: []uint64{key}},
	}[c.Op]
	answer := func(told [12]uint64) api.Answer {
		if told[0] == api.Found {
			return api.Answer{Kind: api.Found, Key: c.Key, Val: word.Signed(told[1])}
		}
		return api.Answer{Kind: int(told[0])}
	}
	r.Add(th, rig.Job{Fn: epoch.Enter}, r.Logged(th, c, job, answer), rig.Job{Fn: epoch.Leave})
}

func TestWhateverTheTurns(t *testing.T) { // 24.2
	d := rig.Dice(25)
	for i := range 500 {
		threads := 1 + i%6
		keys := 1 + i%4
		slots := []int{250, 40, 30, 16}[i%4]
		r := rig.New(threads, slots, 9, Do)
		for th := range threads {
			r.Told(th, api.Call{Op: api.Join}, api.Answer{})
			for range 40 / threads {
				call(r, th, api.Call{Op: d.Below(3), Key: int64(d.Below(keys)), Val: int64(d.Below(9))})
				if d.Below(4) == 0 {
					r.Add(th, rig.Job{Fn: epoch.Advance}, rig.Job{Fn: limbo.Clean})
				}
			}
		}
		took := make([]int, threads)
		r.After = func() {
			if r.M.Fault() {
				t.Fatal("the machine is at fault")
			}
		}
		r.Do = func(m *core.Machine, th int) {
			bottom := m.Thread(th).Depth() == 1
			if f := m.Thread(th).Top(); f.Fn == Find && f.PC == findSeek && bottom {
				took[th] = 0
			}
			took[th]++
			finding := m.Thread(th).Top().Fn == Find || m.Thread(th).Top().Fn == seek.Seek
			Do(m, th)
			if finding && m.Thread(th).Depth() == 0 && took[th] > 3*slots+9 {
				t.Fatalf("Find takes %d steps", took[th])
			}
		}
		if !r.Play(&d, 400000) {
			t.Fatal("somebody comes to no end")
		}
		if wrong := rig.Rest(r.M); wrong != "" {
			t.Fatal(wrong)
		}
		if !lin.Linear(r.Events) {
			t.Fatalf("game %d: no order explains what was told", i)
		}
	}
}

// TestThePlaceIsSoughtOnce has a leaf die, and be taken out, while Find is at it.
func TestThePlaceIsSoughtOnce(t *testing.T) { // 24.1
	for _, dies := range []bool{false, true} {
		r := rig.New(2, 40, 9, Do)
		rig.Plant(r.M, 5, 7, 1)
		r.M.Thread(0).Call(Find, 5)
		for f := r.M.Thread(0).Top(); f.Fn != Find || f.PC != findDied; f = r.M.Thread(0).Top() {
			r.M.Step(0, Do)
		}
		if dies {
			r.Alone(1, most, removing.Remove, 5)
		} else {
			r.M.Step(0, Do)
			r.Alone(1, most, removing.Remove, 5)
		}
		for r.M.Step(0, Do) {
		}
		want := [12]uint64{api.Found, 7}
		if dies {
			want = [12]uint64{api.None}
		}
		if r.M.Thread(0).Ret != want || r.M.Fault() {
			t.Errorf("Find tells %v", r.M.Thread(0).Ret)
		}
	}
}

func TestOtherRoutines(t *testing.T) { // 24.1
	r := rig.New(1, 8, 9, Do)
	if told, _ := r.Alone(0, 99, inserting.Insert, 5); told[0] != api.Done {
		t.Error("Insert is done")
	}
	if told, _ := r.Alone(0, 99, removing.Remove, 5); told[0] != api.Found {
		t.Error("Remove is done")
	}
	if fn, is := r.DoesNone(0, 49, 53, 60); !is {
		t.Errorf("routine %d is done", fn)
	}
}
