package ask

import (
	"math"
	"testing"

	"deadwood/api"
	"deadwood/call"
	"deadwood/clock"
	"deadwood/frame"
	"deadwood/model"
	"deadwood/rig"
	"deadwood/rig/chore"
	"deadwood/scan"
	"deadwood/word"
)

const most = 9999

func asked(r *rig.Rig, c api.Call) (api.Answer, [12]uint64) {
	told, _ := r.Alone(0, most, Ask, uint64(c.Op), word.Bits(c.Key), word.Bits(c.Hi), uint64(c.Limit))
	return Answer(r.M.Thread(0)), told
}

func TestByHand(t *testing.T) { // 29.1, 29.2
	r := rig.New(1, 30, 99, Do)
	if a, told := asked(r, api.Call{Op: api.Min}); a.Kind != api.None || told != [12]uint64{api.None} {
		t.Errorf("Min of nothing: %v", told)
	}
	chore.Put(r, 5, 9, -3)
	for i, c := range []struct {
		c    api.Call
		told [12]uint64
		a    api.Answer
	}{
		{api.Call{Op: api.Count, Key: 0, Hi: 9}, [12]uint64{api.Counted, 0, 0, 2}, api.Answer{Kind: api.Counted, N: 2}},
		{api.Call{Op: api.Floor, Key: -4}, [12]uint64{api.None}, api.Answer{Kind: api.None}},
		{api.Call{Op: api.Floor, Key: 4}, [12]uint64{api.Found, word.Bits(-3), 3}, api.Answer{Kind: api.Found, Key: -3, Val: 3}},
		{api.Call{Op: api.Ceiling, Key: 6}, [12]uint64{api.Found, 9, word.Bits(-9)}, api.Answer{Kind: api.Found, Key: 9, Val: -9}},
		{api.Call{Op: api.Ceiling, Key: 10}, [12]uint64{api.None}, api.Answer{Kind: api.None}},
		{api.Call{Op: api.Min, Key: 6}, [12]uint64{api.Found, word.Bits(-3), 3}, api.Answer{Kind: api.Found, Key: -3, Val: 3}},
		{api.Call{Op: api.Max, Hi: 6}, [12]uint64{api.Found, 9, word.Bits(-9)}, api.Answer{Kind: api.Found, Key: 9, Val: -9}},
		{api.Call{Op: api.Range, Key: -3, Hi: 9, Limit: 2}, [12]uint64{api.List}, api.Answer{Kind: api.List, Pairs: []api.Pair{{Key: -3, Val: 3}, {Key: 5, Val: -5}}}},
		{api.Call{Op: api.Range, Key: 6, Hi: 8, Limit: 2}, [12]uint64{api.List}, api.Answer{Kind: api.List}},
	} {
		if a, told := asked(r, c.c); told != c.told || !call.Same(a, c.a) {
			t.Errorf("case %d: told are %v: %v", i, told, a)
		}
	}
	s := &r.M.Thread(0).Session
	for i, c := range []struct {
		c      api.Call
		lo, hi int64
		limit  int
	}{
		{api.Call{Op: api.Range, Key: 1, Hi: 2, Limit: 3}, 1, 2, 3}, {api.Call{Op: api.Count, Key: 1, Hi: 2, Limit: 3}, 1, 2, 0},
		{api.Call{Op: api.Min, Key: 1, Hi: 2, Limit: 3}, math.MinInt64, math.MaxInt64, 0}, {api.Call{Op: api.Max, Key: 1, Hi: 2, Limit: 3}, math.MinInt64, math.MaxInt64, 0},
		{api.Call{Op: api.Floor, Key: 1, Hi: 2, Limit: 3}, math.MinInt64, 1, 0}, {api.Call{Op: api.Ceiling, Key: 1, Hi: 2, Limit: 3}, 1, math.MaxInt64, 0},
	} {
		if asked(r, c.c); s.Lo != c.lo || s.Hi != c.hi || s.Limit != c.limit {
			t.Errorf("case %d: the session reads from %d to %d, %d", i, s.Lo, s.Hi, s.Limit)
		}
	}
}

func TestAsTheModel(t *testing.T) { // 29.2
	d := rig.Dice(29)
	for range 60 {
		r := rig.New(1, 60, 40, Do)
		s := model.New(1)
		s, _ = s.Do(0, api.Call{Op: api.Join})
		for n := 1; n < 50; n++ {
			c := api.Call{Op: d.Below(2), Key: int64(d.Below(20)), Val: int64(d.Below(99))}
			chore.Alone(r, 0, c)
			s, _ = s.Do(0, c)
			lo := int64(d.Below(20))
			c = api.Call{Op: api.Range + d.Below(6), Key: lo, Hi: lo + int64(d.Below(9)), Limit: 1 + d.Below(5)}
			a, told := asked(r, c)
			_, want := s.Do(0, c)
			if n >= 40 {
				want = api.Answer{Kind: api.Spent}
			}
			if !call.Same(a, want) || r.M.Fault() || (n >= 40 && told != [12]uint64{api.Spent}) {
				t.Fatalf("%v is answered %v, not %v", c, a, want)
			}
		}
	}
}

func TestAnswer(t *testing.T) { // 29.1
	x := frame.New()
	x.Gather(api.Pair{Key: 1, Val: 2})
	x.Gather(api.Pair{Key: 3, Val: 4})
	x.Session.Limit = 1
	for kind, want := range map[uint64]api.Answer{
		api.Done: {}, api.Found: {Kind: api.Found, Key: -1, Val: 6}, api.Counted: {Kind: api.Counted, N: 7}, api.List: {Kind: api.List, Pairs: []api.Pair{{Key: 1, Val: 2}}},
		api.None: {Kind: api.None}, api.Exists: {Kind: api.Exists}, api.Full: {Kind: api.Full}, api.Spent: {Kind: api.Spent}, api.Bad: {Kind: api.Bad}, 99: {Kind: 99},
	} {
		x.Ret = [12]uint64{kind, math.MaxUint64, 6, 7, 8, 9}
		if a := Answer(x); !call.Same(a, want) {
			t.Errorf("kind %d: %v", kind, a)
		}
	}
	if !call.Same(Answer(nil), api.Answer{}) {
		t.Error("a nil thread's answer")
	}
}

func TestOtherRoutines(t *testing.T) { // 29.1
	r := rig.New(1, 8, 9, Do)
	if told, _ := r.Alone(0, 99, clock.Tick); told[0] != 1 {
		t.Error("Tick is done")
	}
	if told, _ := r.Alone(0, 999, scan.Scan); told[0] != api.List {
		t.Error("Scan is done")
	}
	if fn, is := r.DoesNone(0, 59, 69, 73, 80); !is {
		t.Errorf("routine %d is done", fn)
	}
}
