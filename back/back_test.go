package back

import (
	"math"
	"slices"
	"testing"

	"deadwood/api"
	"deadwood/cursor"
	"deadwood/epoch"
	indexes "deadwood/index"
	"deadwood/pairs"
	"deadwood/plan"
	"deadwood/rig"
	"deadwood/rig/chore"
	"deadwood/word"
)

const most = 9999

// opened is a rig with keys, and with a cursor of thread 0.
func opened(lo, hi int64, keys ...int64) *rig.Rig {
	r := rig.New(2, 60, 99, Do)
	chore.Put(r, keys...)
	r.Alone(0, most, epoch.Enter)
	r.Alone(0, most, cursor.Open, word.Bits(lo), word.Bits(hi))
	return r
}

// tells is the keys that a routine tells till it tells None.
func tells(t *testing.T, r *rig.Rig, fn int) []int64 {
	t.Helper()
	var l []int64
	for range 99 {
		told, _ := r.Alone(0, most, fn)
		if told[0] == api.None {
			if told != [12]uint64{api.None} {
				t.Errorf("None is told as %v", told)
			}
			return l
		}
		if told[0] != api.Found || told[2] != word.Bits(-word.Signed(told[1])) {
			t.Errorf("told is %v", told)
		}
		l = append(l, word.Signed(told[1]))
	}
	t.Error("it comes to no end")
	return l
}

func TestTheExample(t *testing.T) { // 39.1
	r := opened(0, 9, 5)
	for i, c := range []struct {
		fn   int
		want [12]uint64
	}{{cursor.Next, [12]uint64{api.Found, 5, word.Bits(-5)}}, {Prev, [12]uint64{api.Found, 5, word.Bits(-5)}}, {Prev, [12]uint64{api.None}}} {
		if told, _ := r.Alone(0, most, c.fn); told != c.want || r.M.Fault() {
			t.Errorf("call %d tells %v", i, told)
		}
	}
}

func TestBackAndForth(t *testing.T) { // 39.1, 39.2
	for _, keys := range [][]int64{{1, 3, 5, 7}, {math.MinInt64, 0, math.MaxInt64}, {math.MaxInt64}, {math.MinInt64}, nil} {
		r := opened(math.MinInt64, math.MaxInt64, keys...)
		down := slices.Clone(keys)
		slices.Reverse(down)
		if l := tells(t, r, Prev); len(l) != 0 {
			t.Errorf("at the beginning Prev tells %v", l)
		}
		for range 2 {
			if l := tells(t, r, cursor.Next); !slices.Equal(l, keys) {
				t.Errorf("Next tells %v of %v", l, keys)
			}
			if l := tells(t, r, Prev); !slices.Equal(l, down) {
				t.Errorf("Prev tells %v of %v", l, keys)
			}
		}
		for range len(keys) {
			next, _ := r.Alone(0, most, cursor.Next)
			prev, _ := r.Alone(0, most, Prev)
			again, _ := r.Alone(0, most, cursor.Next)
			if next != prev || prev != again {
				t.Errorf("Next tells %v, Prev %v, Next %v", next, prev, again)
			}
		}
		r.M.Thread(0).Session.Ended = true
		if l := tells(t, r, Prev); !slices.Equal(l, down) {
			t.Errorf("from its end on Prev tells %v of %v", l, keys)
		}
	}
}

func TestBoundsOfACursor(t *testing.T) { // 39.1
	r := opened(2, 8, 1, 3, 5, 7, 9)
	s := &r.M.Thread(0).Session
	for key, want := range map[int64][]int64{2: nil, 3: nil, 4: {3}, 5: {3}, 6: {5, 3}, 8: {7, 5, 3}, 9: {7, 5, 3}, math.MaxInt64: {7, 5, 3}, math.MinInt64: nil} {
		cursor.Seek(r.M.Thread(0), key)
		if l := tells(t, r, Prev); !slices.Equal(l, want) {
			t.Errorf("behind Seek of %d Prev tells %v", key, l)
		}
	}
	s.Ended = true
	r.Alone(0, most, cursor.Next)
	r.M.Thread(0).Session.Limit = 5
	r.Alone(0, most, Prev)
	if s.V != s.Time || s.Lo != 2 || s.Hi != 8 || s.Limit != 0 || s.At != 7 || s.Ended {
		t.Errorf("the session is %v", s)
	}
	if r.Alone(0, most, Prev); s.Lo != 2 || s.Hi != 6 || s.At != 5 {
		t.Errorf("the session is %v", s)
	}
	s.At = 2
	was := r.M.Mem().Accesses()
	if told, _ := r.Alone(0, most, Prev); told != [12]uint64{api.None} || r.M.Mem().Accesses() != was || s.At != 2 {
		t.Error("who is at Base reads nothing")
	}
}

func TestWithoutACursor(t *testing.T) { // 39.1
	r := opened(0, 9, 1, 5)
	r.Alone(0, most, cursor.Next)
	cursor.Close(r.M.Thread(0))
	was, session := r.M.Mem().Accesses(), r.M.Thread(0).Session
	if told, _ := r.Alone(0, most, Prev); told != [12]uint64{api.None} || r.M.Mem().Accesses() != was || r.M.Thread(0).Session != session {
		t.Errorf("Prev of a closed cursor tells %v", told)
	}
	if told, _ := r.Alone(1, most, Prev); told != [12]uint64{api.None} {
		t.Errorf("Prev of a thread at first tells %v", told)
	}
}

func TestWhateverTheTurns(t *testing.T) { // 39.2
	d := rig.Dice(50)
	for i := range 200 {
		threads := 2 + i%5
		r := rig.New(threads, 120, 1000, Do)
		chore.Put(r, 2, 4, 6)
		lo := int64(d.Below(6))
		hi := lo + int64(d.Below(8))
		var meant, got []api.Pair
		last := r.M.Mem().Words()[plan.Clock]
		r.After = func() {
			if now := r.M.Mem().Words()[plan.Clock]; now != last {
				last, meant = now, pairs.Cut(rig.Pairs(r.M), lo, hi, most)
			}
			if r.M.Fault() {
				t.Fatal("the machine is at fault")
			}
		}
		r.Add(0, rig.Job{Fn: epoch.Enter}, rig.Job{Fn: cursor.Open, R: []uint64{word.Bits(lo), word.Bits(hi)}, Then: func([12]uint64) { r.M.Thread(0).Session.Ended = true }})
		for range 12 {
			r.Add(0, rig.Job{Fn: Prev, Then: func(told [12]uint64) {
				if told[0] == api.Found {
					got = append(got, api.Pair{Key: word.Signed(told[1]), Val: word.Signed(told[2])})
					return
				}
				down := slices.Clone(meant)
				slices.Reverse(down)
				if !slices.Equal(got, down) {
					t.Fatalf("game %d: told are %v, not %v", i, got, down)
				}
			}})
		}
		for th := 1; th < threads; th++ {
			for range 12 {
				chore.Some(r, &d, th, 12)
			}
		}
		if !r.Play(&d, 900000) {
			t.Fatal("somebody comes to no end")
		}
	}
}

func TestOtherRoutines(t *testing.T) { // 39.1
	r := rig.New(1, 8, 9, Do)
	indexes.Begin(r.M, 0, api.Call{Op: api.Join})
	for r.M.Step(0, Do) {
	}
	if r.M.Thread(0).Ret[0] != api.Done || !r.M.Thread(0).Session.Joined {
		t.Error("Call is done")
	}
	if fn, is := r.DoesNone(0, 59, 69, 73, 83, 91); !is {
		t.Errorf("routine %d is done", fn)
	}
}
