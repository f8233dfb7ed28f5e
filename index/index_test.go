package index

import (
	"math"
	"slices"
	"testing"

	"deadwood/api"
	"deadwood/ask"
	"deadwood/call"
	"deadwood/cursor"
	"deadwood/frame"
	"deadwood/lin"
	"deadwood/model"
	"deadwood/plan"
	"deadwood/rig"
)

func op(o int) api.Call { return api.Call{Op: o} }

// do has a thread do a call alone: its answer, and how many steps it took.
func do(t *testing.T, r *rig.Rig, th int, c api.Call) (api.Answer, int) {
	t.Helper()
	if !Begin(r.M, th, c) {
		t.Fatalf("thread %d is within something", th)
	}
	steps := 1
	for r.M.Step(th, Do) {
		if steps++; steps > Most(r.M.Plan().Conf()) {
			t.Fatalf("%v of thread %d comes to no end", c, th)
		}
	}
	a := ask.Answer(r.M.Thread(th))
	if !call.Fits(c, a) || r.M.Fault() {
		t.Fatalf("%v is told %v", c, a)
	}
	return a, steps
}

func kind(t *testing.T, r *rig.Rig, th int, c api.Call) int {
	t.Helper()
	a, _ := do(t, r, th, c)
	return a.Kind
}

func TestTheExample(t *testing.T) { // 31.1, 31.3
	r := rig.New(1, 9, 5, Do)
	if a, steps := do(t, r, 0, op(api.Join)); a.Kind != api.Done || steps != 2 {
		t.Errorf("Join takes %d steps", steps)
	}
	if kind(t, r, 0, api.Call{Op: api.Insert, Key: 5, Val: 1}) != api.Done {
		t.Error("Insert")
	}
	if a, _ := do(t, r, 0, api.Call{Op: api.Lookup, Key: 5}); !call.Same(a, api.Answer{Kind: api.Found, Key: 5, Val: 1}) {
		t.Errorf("Lookup is told %v", a)
	}
}

func TestExamplesOfTheWhole(t *testing.T) { // 31.1, and DOC.md's ten examples
	r := rig.New(1, 9, 2, Do)
	kind(t, r, 0, op(api.Join))
	if kind(t, r, 0, api.Call{Op: api.Count, Hi: 9}) != api.Counted || kind(t, r, 0, api.Call{Op: api.Count, Hi: 9}) != api.Spent {
		t.Error("of Stamps 2 there is one time")
	}
	r = rig.New(1, 7, 9, Do)
	kind(t, r, 0, op(api.Join))
	if kind(t, r, 0, api.Call{Op: api.Insert, Key: 5}) != api.Done || kind(t, r, 0, api.Call{Op: api.Insert, Key: 6}) != api.Full {
		t.Error("of 7 slots there is room for one key")
	}
	r = rig.New(1, 30, 9, Do)
	kind(t, r, 0, op(api.Join))
	for key := range int64(3) {
		kind(t, r, 0, api.Call{Op: api.Insert, Key: key + 1})
	}
	for key := range int64(3) {
		kind(t, r, 0, api.Call{Op: api.Delete, Key: key + 1})
	}
	for range 3 {
		kind(t, r, 0, op(api.Count))
	}
	if r.M.Guard().Held() != 5 {
		t.Errorf("%d slots are held", r.M.Guard().Held())
	}
}

func TestSessions(t *testing.T) { // 31.1
	r := rig.New(1, 30, 9, Do)
	x := r.M.Thread(0)
	all := api.Call{Op: api.Open, Key: 1, Hi: 9}
	for i, c := range []struct {
		c    api.Call
		kind int
	}{
		{op(api.Quit), api.Bad}, {op(api.Count), api.Bad}, {op(api.Join), api.Done}, {op(api.Join), api.Bad}, {op(api.Next), api.Bad}, {op(api.Seek), api.Bad}, {op(api.Close), api.Bad},
		{api.Call{Op: api.Insert, Key: 4, Limit: -1}, api.Done}, {api.Call{Op: api.Insert, Key: 7}, api.Done}, {all, api.Done}, {all, api.Bad}, {op(api.Quit), api.Bad},
		{op(api.Next), api.Found}, {api.Call{Op: api.Delete, Key: 7}, api.Found}, {op(api.Next), api.Found}, {op(api.Next), api.None}, {api.Call{Op: api.Seek, Key: 5}, api.Done}, {op(api.Next), api.Found},
		{op(api.Close), api.Done}, {op(api.Next), api.Bad}, {api.Call{Op: api.Count, Key: 1}, api.Bad}, {api.Call{Op: api.Range, Hi: 9}, api.Bad}, {op(15), api.Bad}, {op(-1), api.Bad},
		{op(math.MaxInt), api.Bad}, {api.Call{Op: api.Range, Hi: 9, Limit: math.MaxInt}, api.Bad}, {op(api.Min), api.Found}, {op(api.Quit), api.Done}, {op(api.Min), api.Bad}, {op(api.Join), api.Done},
	} {
		if Bad(x, c.c) != (c.kind == api.Bad) {
			t.Errorf("call %d: Bad is %v", i, Bad(x, c.c))
		}
		was := r.M.Mem().Words()
		if got := kind(t, r, 0, c.c); got != c.kind {
			t.Errorf("call %d is told %d, not %d", i, got, c.kind)
		}
		if c.kind == api.Bad && !slices.Equal(was, r.M.Mem().Words()) {
			t.Errorf("call %d, told Bad, changes something", i)
		}
		announced := r.M.Mem().Words()[r.M.Plan().Active(0)] != 0
		if announced != x.Session.Pinned {
			t.Errorf("behind call %d the thread is about: %v", i, announced)
		}
	}
	if x.Session != (frame.Session{Joined: true}) {
		t.Errorf("behind Quit and Join the session is %v", x.Session)
	}
	kind(t, r, 0, op(api.Quit))
	if x.Session != (frame.Session{}) || !Bad(nil, op(api.Join)) || Bad(frame.New(), op(api.Join)) {
		t.Errorf("behind Quit the session is %v", x.Session)
	}
}

// TestWhoIsAbout has each call announce itself ahead of its coming to nodes, and be idle behind it.
func TestWhoIsAbout(t *testing.T) { // 31.1
	r := rig.New(1, 30, 9, Do)
	kind(t, r, 0, op(api.Join))
	kind(t, r, 0, api.Call{Op: api.Insert, Key: 1})
	for o := range 9 {
		Begin(r.M, 0, api.Call{Op: o, Key: 1, Hi: 9, Limit: 1})
		epochs, came := 0, false
		was := r.M.Mem().Words()[plan.Epoch]
		for more := true; more; {
			about := r.M.Mem().Words()[r.M.Plan().Active(0)] != 0
			if f := r.M.Thread(0).Top(); f.Fn >= 30 && f.Fn < Call {
				came = true
				if !about {
					t.Fatalf("Op %d comes to nodes, and has not entered", o)
				}
			}
			more = r.M.Step(0, Do)
			if now := r.M.Mem().Words()[plan.Epoch]; now != was {
				was = now
				epochs++
			}
		}
		want := 1
		if o == api.Lookup {
			want = 0
		}
		if !came || r.M.Mem().Words()[r.M.Plan().Active(0)] != 0 || epochs != want {
			t.Errorf("Op %d has the epoch go on %d times", o, epochs)
		}
	}
}

func TestBegin(t *testing.T) { // 31.1
	r := rig.New(2, 30, 9, Do)
	c := api.Call{Op: api.Range, Key: -1, Val: 2, Hi: math.MinInt64, Limit: 3}
	if !Begin(r.M, 1, c) || Begin(r.M, 1, c) || Begin(nil, 0, c) || Begin(r.M, -1, c) || Begin(r.M, 2, c) {
		t.Error("Begin")
	}
	f := r.M.Thread(1).Top()
	if f.Fn != Call || f.PC != 0 || f.R != [24]uint64{api.Range, math.MaxUint64, 2, 1 << 63, 3} || r.M.Steps() != 0 {
		t.Errorf("the registers are %v", f.R)
	}
	for n, want := range map[int]uint64{-1: math.MaxInt32, math.MinInt: math.MaxInt32, math.MaxInt32: math.MaxInt32, math.MaxInt32 + 1: math.MaxInt32, math.MaxInt: math.MaxInt32, math.MaxInt32 - 1: math.MaxInt32 - 1, 0: 0} {
		x := rig.New(1, 30, 9, Do)
		Begin(x.M, 0, api.Call{Op: n, Limit: n})
		if f := x.M.Thread(0).Top(); f.R[0] != want || f.R[4] != want {
			t.Errorf("%d counts as %d and %d", n, f.R[0], f.R[4])
		}
	}
}

func TestMost(t *testing.T) { // 31.2
	for _, c := range []struct {
		threads, slots int
		stamps         uint64
		want           int
	}{{1, 7, 1, 740}, {6, 250, 1 << 40, 10760}, {0, 7, 1, 0}, {1, 6, 1, 0}, {1, 7, 0, 0}, {7, 7, 1, 0}} {
		if got := Most(api.Conf{Threads: c.threads, Slots: c.slots, Stamps: c.stamps}); got != c.want {
			t.Errorf("Most of %v is %d", c, got)
		}
	}
}

// someCall is any call, of so many keys.
func someCall(d *rig.Dice, keys int) api.Call {
	lo := int64(d.Below(keys))
	c := api.Call{Op: d.Below(14), Key: lo, Val: int64(d.Below(99)), Hi: lo + int64(d.Below(keys)), Limit: 1 + d.Below(5)}
	if d.Below(4) == 0 {
		c.Op = api.Insert
	}
	return c
}

func TestOneBehindTheOther(t *testing.T) { // 31.2, 31.3
	d := rig.Dice(31)
	for i := range 60 {
		threads := 1 + i%6
		r := rig.New(threads, min(250, 60+40*threads), 1000, Do)
		s := model.New(threads)
		for n := range 150 {
			th := d.Below(threads)
			c := someCall(&d, 12)
			if n < threads {
				th, c = n, op(api.Join)
			} else if d.Below(9) == 0 {
				c = op(api.Close)
			} else if d.Below(40) == 0 {
				c = op(api.Quit)
			}
			next, want := s.Do(th, c)
			a, _ := do(t, r, th, c)
			if a.Kind == api.Full { // a cursor that is open keeps what is put away
				continue
			}
			s = next
			if !call.Same(a, want) {
				t.Fatalf("game %d: %v of thread %d is told %v, not %v", i, c, th, a, want)
			}
		}
	}
}

func TestWhateverTheTurns(t *testing.T) { // 31.3
	d := rig.Dice(32)
	for i := range 600 {
		threads := 1 + i%6
		keys := 1 + i%5
		stamps := []uint64{1000, 5}[i/6%2]
		r := rig.New(threads, []int{250, 40, 24, 13}[i%4], stamps, Do)
		for th := range threads {
			for n := range 42 / threads {
				c := someCall(&d, keys)
				if n == 0 {
					c = op(api.Join)
				}
				regs := []uint64{uint64(c.Op), uint64(c.Key), uint64(c.Val), uint64(c.Hi), uint64(c.Limit)}
				r.Add(th, r.Logged(th, c, rig.Job{Fn: Call, R: regs}, func([12]uint64) api.Answer {
					a := ask.Answer(r.M.Thread(th))
					if !call.Fits(c, a) {
						t.Errorf("%v is told %v", c, a)
					}
					if a.Kind == api.Spent && r.M.Mem().Words()[plan.Clock] < stamps {
						t.Error("Spent, though there are times")
					}
					return a
				}))
			}
		}
		r.After = func() {
			if r.M.Fault() {
				t.Fatal("the machine is at fault")
			}
		}
		if !r.Play(&d, 900000) {
			t.Fatal("somebody comes to no end")
		}
		if !lin.Linear(r.Events) {
			t.Fatalf("game %d: no order explains what was told", i)
		}
	}
}

func TestOtherRoutines(t *testing.T) { // 31.1
	r := rig.New(1, 8, 9, Do)
	if told, _ := r.Alone(0, 999, ask.Ask, api.Count, 0, 9); told[0] != api.Counted {
		t.Error("Ask is done")
	}
	if told, _ := r.Alone(0, 999, cursor.Open, 0, 9); told[0] != api.Done {
		t.Error("Open is done")
	}
	if fn, is := r.DoesNone(0, 59, 69, 73, 82, 91); !is {
		t.Errorf("routine %d is done", fn)
	}
}
