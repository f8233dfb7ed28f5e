package model

import (
	"math"
	"testing"

	"deadwood/api"
	"deadwood/call"
)

// ask is a call, and the answer that is meant.
type ask struct {
	thread int
	c      api.Call
	a      api.Answer
}

func done() api.Answer           { return api.Answer{Kind: api.Done} }
func none() api.Answer           { return api.Answer{Kind: api.None} }
func bad() api.Answer            { return api.Answer{Kind: api.Bad} }
func op(o int) api.Call          { return api.Call{Op: o} }
func ins(k, v int64) api.Call    { return api.Call{Op: api.Insert, Key: k, Val: v} }
func of(o int, k int64) api.Call { return api.Call{Op: o, Key: k} }
func hit(k, v int64) api.Answer  { return api.Answer{Kind: api.Found, Key: k, Val: v} }
func span(o int, lo, hi int64, limit int) api.Call {
	return api.Call{Op: o, Key: lo, Hi: hi, Limit: limit}
}
func list(n ...int64) api.Answer {
	a := api.Answer{Kind: api.List}
	for i := 0; i < len(n); i += 2 {
		a.Pairs = append(a.Pairs, api.Pair{Key: n[i], Val: n[i+1]})
	}
	return a
}
func counted(n int) api.Answer { return api.Answer{Kind: api.Counted, N: n} }

func play(t *testing.T, threads int, l ...ask) State {
	t.Helper()
	s := New(threads)
	for i, x := range l {
		was := s.Text()
		next, a := s.Do(x.thread, x.c)
		if !call.Same(a, x.a) {
			t.Fatalf("call %d, %v: %v, not %v", i, x.c, a, x.a)
		}
		if s.Text() != was {
			t.Fatalf("call %d changed what it was asked of", i)
		}
		if a.Kind == api.Bad && !next.Same(s) {
			t.Fatalf("call %d, told Bad, changed something", i)
		}
		s = next
	}
	return s
}

func TestTheMap(t *testing.T) { // 10.1, 10.3
	play(t, 1,
		ask{0, op(api.Join), done()},
		ask{0, op(api.Min), none()}, ask{0, op(api.Max), none()}, ask{0, of(api.Floor, 5), none()}, ask{0, of(api.Ceiling, 5), none()},
		ask{0, ins(5, 1), done()}, ask{0, ins(5, 2), api.Answer{Kind: api.Exists}}, ask{0, of(api.Lookup, 5), hit(5, 1)},
		ask{0, of(api.Lookup, 6), none()}, ask{0, of(api.Delete, 6), none()},
		ask{0, ins(math.MinInt64, 3), done()}, ask{0, ins(math.MaxInt64, 4), done()}, ask{0, ins(7, 2), done()},
		ask{0, op(api.Min), hit(math.MinInt64, 3)}, ask{0, op(api.Max), hit(math.MaxInt64, 4)},
		ask{0, of(api.Floor, 6), hit(5, 1)}, ask{0, of(api.Ceiling, 6), hit(7, 2)}, ask{0, of(api.Floor, 5), hit(5, 1)}, ask{0, of(api.Ceiling, 7), hit(7, 2)},
		ask{0, span(api.Range, 0, 9, 1), list(5, 1)}, ask{0, span(api.Range, 0, 9, 9), list(5, 1, 7, 2)}, ask{0, span(api.Range, 8, 9, 9), list()},
		ask{0, span(api.Count, 0, 9, 0), counted(2)}, ask{0, span(api.Count, math.MinInt64, math.MaxInt64, 0), counted(4)},
		ask{0, of(api.Delete, 5), hit(5, 1)}, ask{0, of(api.Delete, 5), none()}, ask{0, of(api.Lookup, 5), none()},
		ask{0, ins(5, 9), done()}, ask{0, of(api.Lookup, 5), hit(5, 9)})
}

func TestSessions(t *testing.T) { // 10.1
	all := span(api.Open, 0, 9, 0)
	s := play(t, 2,
		ask{0, ins(1, 1), bad()}, ask{0, op(api.Quit), bad()}, ask{0, op(api.Next), bad()}, ask{0, op(api.Count), bad()},
		ask{0, op(api.Join), done()}, ask{0, op(api.Join), bad()}, ask{1, op(api.Count), bad()},
		ask{0, op(api.Next), bad()}, ask{0, op(api.Seek), bad()}, ask{0, op(api.Close), bad()},
		ask{0, all, done()}, ask{0, all, bad()}, ask{0, op(api.Quit), bad()}, ask{0, op(api.Join), bad()}, ask{0, op(api.Next), none()},
		ask{0, op(api.Close), done()}, ask{0, op(api.Close), bad()}, ask{0, op(api.Quit), done()}, ask{0, op(api.Quit), bad()},
		ask{-1, op(api.Join), bad()}, ask{2, op(api.Join), bad()}, ask{0, op(15), bad()}, ask{0, op(-1), bad()},
		ask{0, op(api.Join), done()}, ask{0, span(api.Range, 0, 9, 0), bad()}, ask{0, span(api.Open, 5, 4, 0), bad()}, ask{0, op(api.Quit), done()})
	if !s.Same(New(2)) {
		t.Error("who has quit is as at first")
	}
}

func TestCursors(t *testing.T) { // 10.1, 10.3
	s := play(t, 2,
		ask{0, op(api.Join), done()}, ask{1, op(api.Join), done()},
		ask{0, ins(2, 1), done()}, ask{0, ins(5, 1), done()}, ask{0, ins(8, 1), done()}, ask{0, ins(20, 1), done()},
		ask{0, span(api.Open, 2, 9, 0), done()},
		ask{1, of(api.Delete, 5), hit(5, 1)}, ask{1, ins(6, 1), done()}, ask{1, op(api.Next), bad()},
		ask{0, op(api.Next), hit(2, 1)}, ask{0, op(api.Next), hit(5, 1)}, ask{0, op(api.Next), hit(8, 1)}, ask{0, op(api.Next), none()}, ask{0, op(api.Next), none()},
		ask{0, of(api.Seek, 3), done()}, ask{0, op(api.Next), hit(5, 1)}, ask{0, of(api.Seek, -9), done()}, ask{0, op(api.Next), hit(2, 1)},
		ask{0, of(api.Seek, 99), done()}, ask{0, op(api.Next), none()}, ask{0, of(api.Seek, 8), done()}, ask{0, op(api.Next), hit(8, 1)},
		ask{0, of(api.Lookup, 5), none()}, ask{0, of(api.Seek, 5), done()})
	if c := s.Threads[0]; !c.Joined || !c.Open || len(c.Frozen) != 3 || c.At != 1 {
		t.Errorf("the cursor is %v", c)
	}
	s, _ = s.Do(0, op(api.Close))
	if c := s.Threads[0]; !sameSess(c, Sess{Joined: true}) {
		t.Errorf("the closed cursor is %v", c)
	}
}

func TestNew(t *testing.T) { // 10.2
	for n, want := range map[int]int{-1: 0, 0: 0, 1: 1, 6: 6, 7: 6, math.MaxInt: 6, math.MinInt: 0} {
		if s := New(n); len(s.Threads) != want || len(s.Map) != 0 {
			t.Errorf("New(%d): %v", n, s)
		}
	}
}

func TestTold(t *testing.T) { // 10.2
	s := play(t, 1, ask{0, op(api.Join), done()}, ask{0, ins(5, 1), done()})
	full, spent := api.Answer{Kind: api.Full}, api.Answer{Kind: api.Spent}
	for i, x := range []struct {
		c       api.Call
		a       api.Answer
		ok      bool
		changes bool
	}{
		{ins(6, 1), done(), true, true}, {ins(6, 1), full, true, false}, {ins(5, 1), full, false, false}, {ins(6, 1), spent, false, false},
		{ins(6, 1), api.Answer{Kind: api.Full, N: 1}, false, false}, {ins(5, 2), api.Answer{Kind: api.Exists}, true, false},
		{ins(5, 2), done(), false, false}, {of(api.Delete, 5), hit(5, 1), true, true}, {of(api.Delete, 5), hit(5, 2), false, false}, {of(api.Delete, 5), full, false, false},
		{span(api.Count, 0, 9, 0), spent, true, false}, {span(api.Range, 0, 9, 1), spent, true, false}, {op(api.Min), spent, true, false},
		{op(api.Max), spent, true, false}, {of(api.Floor, 1), spent, true, false}, {of(api.Ceiling, 1), spent, true, false}, {span(api.Open, 0, 9, 0), spent, true, false},
		{span(api.Open, 0, 9, 0), done(), true, true}, {of(api.Lookup, 5), spent, false, false}, {op(api.Next), spent, false, false}, {op(api.Join), spent, false, false},
		{span(api.Count, 9, 0, 0), spent, false, false}, {span(api.Count, 9, 0, 0), bad(), true, false}, {span(api.Count, 0, 9, 0), bad(), false, false},
		{op(api.Min), api.Answer{Kind: api.Spent, Key: 1}, false, false},
	} {
		got, ok := s.Told(0, x.c, x.a)
		if ok != x.ok || got.Same(s) == x.changes {
			t.Errorf("case %d: %v told %v: %v", i, x.c, x.a, ok)
		}
	}
	if _, ok := New(1).Told(0, span(api.Count, 0, 9, 0), spent); ok {
		t.Error("Spent is not told to who has not joined")
	}
}

func TestSameAndText(t *testing.T) { // 10.2
	var all []State
	walk := func(calls ...api.Call) {
		s := New(2)
		for i, c := range calls {
			all = append(all, s)
			s, _ = s.Do(i%2, c)
		}
		all = append(all, s)
	}
	j := op(api.Join)
	walk(j, j, ins(1, 2), ins(3, 4), span(api.Open, 0, 9, 0), span(api.Open, 2, 9, 0), op(api.Next), op(api.Next), of(api.Delete, 1), op(api.Close))
	walk(j, j, ins(3, 4), ins(1, 2), span(api.Open, 5, 9, 0), of(api.Delete, 3), op(api.Next), ins(-1, 2), of(api.Seek, 9), ins(1, -2))
	walk(j, j, ins(12, 3), op(api.Quit), ins(1, 23))
	walk(j, j, ins(1, 23), op(api.Quit), ins(12, 3))
	for _, a := range all {
		for _, b := range all {
			if a.Same(b) != (a.Text() == b.Text()) {
				t.Fatalf("%v and %v: %q, %q", a, b, a.Text(), b.Text())
			}
		}
	}
	if !(State{}).Same(State{Map: []api.Pair{}, Threads: []Sess{}}) || New(1).Same(New(2)) {
		t.Error("nil and empty are one")
	}
}

func TestStatesOfOneselves(t *testing.T) { // P1
	for _, at := range []int{-1, 1, math.MaxInt, math.MinInt} {
		s := State{Threads: []Sess{{Joined: true, Open: true, At: at}}}
		for o := -1; o < 16; o++ {
			s.Do(0, op(o))
			s.Told(0, op(o), done())
		}
		s.Text()
	}
}

func TestAnswersAreNewMemory(t *testing.T) { // the rule of memory
	s := play(t, 1, ask{0, op(api.Join), done()}, ask{0, ins(5, 1), done()}, ask{0, span(api.Open, 0, 9, 0), done()})
	was := s.Text()
	for _, c := range []api.Call{of(api.Lookup, 5), of(api.Delete, 5), op(api.Next), span(api.Range, 0, 9, 5), span(api.Open, 0, 9, 0)} {
		n, a := s.Do(0, c)
		told, _ := s.Told(0, c, a)
		for _, o := range []State{n, told} {
			for i := range o.Map {
				o.Map[i].Val = 77
			}
			for i := range o.Threads[0].Frozen {
				o.Threads[0].Frozen[i].Val = 77
			}
			o.Threads[0].Joined = false
		}
		for i := range a.Pairs {
			a.Pairs[i].Val = 77
		}
	}
	if s.Text() != was {
		t.Error("the state behind shares memory with the one ahead")
	}
}
