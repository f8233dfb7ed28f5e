package cursor

import (
	"math"
	"slices"
	"testing"

	"deadwood/api"
	asking "deadwood/ask"
	clocks "deadwood/clock"
	"deadwood/epoch"
	"deadwood/frame"
	"deadwood/limbo"
	"deadwood/pairs"
	"deadwood/plan"
	"deadwood/rig"
	"deadwood/rig/chore"
	"deadwood/word"
)

const most = 9999

func opened(r *rig.Rig, t int, lo, hi int64) uint64 {
	r.Alone(t, most, epoch.Enter)
	told, _ := r.Alone(t, most, Open, word.Bits(lo), word.Bits(hi))
	return told[0]
}

// rest is the keys that Next tells till it tells None.
func rest(t *testing.T, r *rig.Rig, th int) []int64 {
	t.Helper()
	var l []int64
	for range 99 {
		told, _ := r.Alone(th, most, Next)
		if told[0] == api.None {
			if told != [12]uint64{api.None} {
				t.Errorf("None is told as %v", told)
			}
			return l
		}
		if told[0] != api.Found {
			t.Errorf("Next tells %v", told)
		}
		l = append(l, word.Signed(told[1]))
	}
	t.Error("Next comes to no end")
	return l
}

func TestTheExample(t *testing.T) { // 30.1, 30.2
	r := rig.New(2, 12, 9, Do)
	chore.Put(r, 5)
	if kind := opened(r, 0, 0, 9); kind != api.Done {
		t.Fatalf("Open tells %d", kind)
	}
	chore.Alone(r, 1, api.Call{Op: api.Delete, Key: 5})
	told, _ := r.Alone(0, most, Next)
	if told != [12]uint64{api.Found, 5, word.Bits(-5)} {
		t.Errorf("Next tells %v", told)
	}
	if told, _ = r.Alone(0, most, Next); told != [12]uint64{api.None} || r.M.Fault() {
		t.Errorf("Next at the end tells %v", told)
	}
}

func TestOpen(t *testing.T) { // 30.1
	r := rig.New(1, 12, 3, Do)
	r.Alone(0, most, clocks.Tick)
	r.M.Thread(0).Session.Ended = true
	past := r.M.Thread(0).Session
	if opened(r, 0, -3, 9) != api.Done {
		t.Fatal("Open")
	}
	s := r.M.Thread(0).Session
	if !s.Pinned || s.Ended || s.Time != 2 || s.Base != -3 || s.At != -3 || s.Top != 9 || past.Pinned {
		t.Errorf("the session is %v", s)
	}
	was := r.M.Mem().Words()
	r.Alone(0, most, epoch.Leave)
	r.Alone(0, most, epoch.Enter)
	if !slices.Equal(r.M.Mem().Words(), was) {
		t.Error("what it announced stays")
	}
	Close(r.M.Thread(0))
	s = r.M.Thread(0).Session
	told, _ := r.Alone(0, most, Open, 1, 2)
	if told != [12]uint64{api.Spent} || r.M.Thread(0).Session.Pinned || r.M.Thread(0).Session.Base != s.Base {
		t.Errorf("Open without a time tells %v", told)
	}
}

func TestNextToTheGreatestNumber(t *testing.T) { // 30.1
	r := rig.New(1, 30, 9, Do)
	chore.Put(r, math.MaxInt64, 3, math.MinInt64, math.MaxInt64-1)
	opened(r, 0, math.MinInt64, math.MaxInt64)
	if l := rest(t, r, 0); !slices.Equal(l, []int64{math.MinInt64, 3, math.MaxInt64 - 1, math.MaxInt64}) {
		t.Errorf("told are %v", l)
	}
	s := r.M.Thread(0).Session
	if !s.Ended || s.At != math.MaxInt64 {
		t.Errorf("the session is %v", s)
	}
	was := r.M.Mem().Accesses()
	if r.Alone(0, most, Next); r.M.Mem().Accesses() != was {
		t.Error("who is at its end reads nothing")
	}
	Seek(r.M.Thread(0), 4)
	if l := rest(t, r, 0); !slices.Equal(l, []int64{math.MaxInt64 - 1, math.MaxInt64}) {
		t.Errorf("behind Seek told are %v", l)
	}
}

func TestNextsSession(t *testing.T) { // 30.1
	r := rig.New(1, 30, 9, Do)
	chore.Put(r, 3, 5)
	r.M.Thread(0).Session.Limit = 7
	opened(r, 0, 1, 8)
	r.Alone(0, most, clocks.Tick)
	r.Alone(0, most, Next)
	s := r.M.Thread(0).Session
	if s.V != 1 || s.Lo != 1 || s.Hi != 8 || s.Limit != 0 || s.At != 4 || s.Ended {
		t.Errorf("the session is %v", s)
	}
	r.Alone(0, most, Next)
	r.Alone(0, most, Next)
	if s = r.M.Thread(0).Session; s.At != 6 || s.Ended || s.Lo != 6 {
		t.Errorf("the session at its end is %v", s)
	}
}

func TestSeekAndClose(t *testing.T) { // 30.1, 30.2
	r := rig.New(1, 30, 9, Do)
	chore.Put(r, 1, 3, 5, 7, 9)
	x := r.M.Thread(0)
	if was := x.Session; Seek(x, 3) || Close(x) || x.Session != was || Seek(nil, 3) || Close(nil) {
		t.Error("who has no cursor open")
	}
	opened(r, 0, 2, 8)
	accesses := r.M.Mem().Accesses()
	for _, c := range []struct {
		key  int64
		want []int64
	}{{3, []int64{3, 5, 7}}, {4, []int64{5, 7}}, {-5, []int64{3, 5, 7}}, {math.MinInt64, []int64{3, 5, 7}}, {8, nil}, {99, nil}, {math.MaxInt64, nil}, {7, []int64{7}}} {
		x.Session.Ended = true
		accesses = r.M.Mem().Accesses()
		if !Seek(x, c.key) || x.Session.At != max(2, c.key) || x.Session.Ended || r.M.Mem().Accesses() != accesses {
			t.Errorf("Seek of %d: %v", c.key, x.Session)
		}
		if l := rest(t, r, 0); !slices.Equal(l, c.want) {
			t.Errorf("behind Seek of %d told are %v", c.key, l)
		}
	}
	accesses = r.M.Mem().Accesses()
	if !Close(x) || x.Session.Pinned || Close(x) || r.M.Mem().Accesses() != accesses {
		t.Error("Close")
	}
	if y := frame.New(); Seek(y, 1) || Close(y) {
		t.Error("a thread at first")
	}
}

func TestWhateverTheTurns(t *testing.T) { // 30.2
	d := rig.Dice(30)
	for i := range 250 {
		threads := 2 + i%5
		r := rig.New(threads, []int{70, 120}[i%2], 1000, Do)
		chore.Put(r, 2, 4, 6)
		lo := int64(d.Below(6))
		hi := lo + int64(d.Below(8))
		var meant, got []api.Pair
		from := 0
		last := r.M.Mem().Words()[plan.Clock]
		r.After = func() {
			if now := r.M.Mem().Words()[plan.Clock]; now != last {
				last, meant = now, pairs.Cut(rig.Pairs(r.M), lo, hi, most)
			}
			if r.M.Fault() {
				t.Fatal("the machine is at fault")
			}
		}
		read := rig.Job{Fn: Next, Then: func(told [12]uint64) {
			if told[0] == api.Found {
				got = append(got, api.Pair{Key: word.Signed(told[1]), Val: word.Signed(told[2])})
				return
			}
			if !pairs.Same(got, meant[from:]) {
				t.Fatalf("game %d: told are %v, not %v", i, got, meant[from:])
			}
		}}
		r.Add(0, rig.Job{Fn: epoch.Enter}, rig.Job{Fn: Open, R: []uint64{word.Bits(lo), word.Bits(hi)}})
		for range 10 {
			r.Add(0, read)
		}
		key := int64(d.Below(12))
		r.Add(0, rig.Job{Fn: limbo.Clean, First: func() {
			Seek(r.M.Thread(0), key)
			got = nil
			from, _ = pairs.Find(meant, key)
		}})
		for range 10 {
			r.Add(0, read)
		}
		r.Add(0, rig.Job{Fn: limbo.Clean, Then: func([12]uint64) { Close(r.M.Thread(0)) }}, rig.Job{Fn: epoch.Leave})
		for th := 1; th < threads; th++ {
			for range 12 {
				chore.Some(r, &d, th, 12)
			}
		}
		if !r.Play(&d, 900000) {
			t.Fatal("somebody comes to no end")
		}
	}
}

func TestOtherRoutines(t *testing.T) { // 30.1
	r := rig.New(1, 8, 9, Do)
	if told, _ := r.Alone(0, 99, clocks.Tick); told[0] != 1 {
		t.Error("Tick is done")
	}
	if told, _ := r.Alone(0, 999, asking.Ask, api.Count, 0, 9); told[0] != api.Counted {
		t.Error("Ask is done")
	}
	if fn, is := r.DoesNone(0, 59, 69, 73, 82, 90); !is {
		t.Errorf("routine %d is done", fn)
	}
}
