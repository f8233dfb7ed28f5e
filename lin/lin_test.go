package lin

import (
	"slices"
	"testing"

	"deadwood/api"
	"deadwood/hist"
	"deadwood/legal"
	"deadwood/model"
)

// slowFind is the document's words: no memory of what was met.
func slowFind(o []api.Oper, threads int) ([]int, bool) {
	var look func(order []int) ([]int, bool)
	look = func(order []int) ([]int, bool) {
		if legal.May(o, order) {
			return order, true
		}
		for _, p := range legal.Free(o, order) {
			next := append(slices.Clone(order), p)
			if !legal.Legal(o, next, threads) {
				continue
			}
			if found, ok := look(next); ok {
				return found, true
			}
		}
		return nil, false
	}
	return look(nil)
}

// dice is numbers that look like none, from a number on.
type dice uint64

func (d *dice) below(n int) int {
	*d = *d*6364136223846793005 + 1442695040888963407
	return int(uint64(*d) >> 33 % uint64(n))
}

// history is a history of so many calls of two threads, whose answers may be wrong.
func history(d *dice, calls int) []api.Event {
	var l []api.Event
	state := model.New(2)
	var meant [2]api.Answer
	var within [2]bool
	for calls > 0 {
		t := d.below(2)
		if within[t] {
			if d.below(8) == 0 {
				meant[t] = api.Answer{Kind: d.below(5)}
			}
			l = append(l, api.Event{Thread: t, Back: true, Answer: meant[t]})
			within[t] = false
			continue
		}
		c := api.Call{Op: []int{api.Join, api.Insert, api.Delete, api.Lookup, api.Count, api.Min}[d.below(6)], Key: int64(d.below(2)), Hi: 1}
		if d.below(4) == 0 {
			state, _ = state.Do(t, api.Call{Op: api.Join})
			c = api.Call{Op: api.Join}
		}
		l = append(l, api.Event{Thread: t, Call: c})
		state, meant[t] = state.Do(t, c)
		within[t] = true
		calls--
	}
	return l
}

func TestFindIsTheFirstOrder(t *testing.T) { // 13.1, 13.3
	d := dice(1)
	linear, others := 0, 0
	for i := range 600 {
		l := history(&d, 1+i%6)
		o := hist.Opers(l)
		want, ok := slowFind(o, hist.Threads(l))
		got, is := Find(o, hist.Threads(l))
		if is != ok || !slices.Equal(got, want) || Linear(l) != ok {
			t.Fatalf("%v: %v %v, not %v %v", l, got, is, want, ok)
		}
		if !is {
			others++
			continue
		}
		linear++
		if !legal.May(o, got) || !legal.Legal(o, got, hist.Threads(l)) {
			t.Fatalf("%v: %v", l, got)
		}
	}
	if linear < 50 || others < 50 {
		t.Errorf("%d histories are linearizable, %d aren't", linear, others)
	}
}

func TestOneBehindTheOther(t *testing.T) { // 13.3
	d := dice(7)
	for range 50 {
		s := model.New(3)
		var l []api.Event
		for range 48 {
			th := d.below(3)
			c := api.Call{Op: d.below(15), Key: int64(d.below(5)), Val: int64(d.below(9)), Hi: int64(d.below(8)), Limit: 3}
			var a api.Answer
			s, a = s.Do(th, c)
			l = append(l, api.Event{Thread: th, Call: c}, api.Event{Thread: th, Back: true, Answer: a})
		}
		if !Linear(l) {
			t.Fatal("what was done one behind the other is linearizable")
		}
	}
}

func oper(op int, key int64, kind, from, to int) api.Oper {
	return api.Oper{Call: api.Call{Op: op, Key: key}, Answer: api.Answer{Kind: kind}, From: from, To: to}
}

func TestFirstOnesByHand(t *testing.T) { // 13.1
	join := oper(api.Join, 0, api.Done, 0, 1)
	find := func(o []api.Oper, ok bool, want ...int) {
		t.Helper()
		if got, is := Find(o, 1); is != ok || !slices.Equal(got, want) {
			t.Errorf("%v %v, not %v %v", got, is, want, ok)
		}
	}
	find(nil, true)
	find([]api.Oper{join}, true, 0)
	find([]api.Oper{oper(api.Insert, 1, 0, 0, -1)}, true)
	find([]api.Oper{join, oper(api.Insert, 1, 0, 2, -1)}, true, 0)
	find([]api.Oper{join, oper(api.Insert, 1, api.Exists, 2, 5), oper(api.Insert, 1, api.Done, 3, 4)}, true, 0, 2, 1)
	find([]api.Oper{join, oper(api.Insert, 1, api.Exists, 2, 5), oper(api.Insert, 1, api.Done, 6, 7)}, false)
	find([]api.Oper{join, oper(api.Insert, 1, 0, 2, -1), oper(api.Insert, 1, api.Exists, 3, 4)}, true, 0, 1, 2)
	find([]api.Oper{join, oper(api.Delete, 1, 0, 2, -1), oper(api.Insert, 1, api.Done, 3, 4)}, true, 0, 1, 2)
	find([]api.Oper{oper(api.Lookup, 1, api.Found, 0, 1)}, false)
	find([]api.Oper{join, oper(api.Insert, 1, 0, 2, -1), oper(api.Insert, 1, api.Done, 3, 4)}, true, 0, 2)
	find([]api.Oper{join, oper(api.Insert, 2, 0, 2, -1), oper(api.Insert, 1, 0, 3, -1), oper(api.Insert, 1, api.Done, 4, 6), oper(api.Insert, 2, api.Exists, 5, 7)}, true, 0, 1, 3, 2, 4)
}

func TestTries(t *testing.T) { // 13.2
	join := oper(api.Join, 0, api.Done, 0, 1)
	for i, c := range []struct {
		o    []api.Oper
		want int
	}{
		{nil, 1}, {[]api.Oper{join}, 2}, {[]api.Oper{oper(api.Lookup, 1, api.Found, 0, 1)}, 1},
		// two that may stand in either order, and lead to one state, ahead of one that may not be told
		{[]api.Oper{join, oper(api.Insert, 1, api.Done, 2, 5), oper(api.Insert, 2, api.Done, 3, 4), oper(api.Insert, 3, api.Exists, 6, 7)}, 5},
		{[]api.Oper{join, oper(api.Insert, 1, 0, 2, -1), oper(api.Insert, 1, api.Exists, 3, 4)}, 4},
	} {
		if got := Tries(c.o, 1); got != c.want {
			t.Errorf("case %d: %d met, not %d", i, got, c.want)
		}
	}
}

// TestWhatWasMetIsNotLookedAtAgain has so many orders that nobody goes through them one by one.
func TestWhatWasMetIsNotLookedAtAgain(t *testing.T) { // 13.1, 13.2
	o := []api.Oper{oper(api.Join, 0, api.Done, 0, 1)}
	for k := range 14 {
		o = append(o, oper(api.Insert, int64(k), api.Done, 2+k, 30+k))
	}
	o = append(o, oper(api.Insert, 3, api.Done, 90, 91))
	if l, ok := Find(o, 1); ok || len(l) != 0 || Tries(o, 1) != 1+1<<14 {
		t.Errorf("%d met", Tries(o, 1))
	}
}

func TestTooMany(t *testing.T) { // 13.1, 13.2
	o := make([]api.Oper, 49)
	l := make([]api.Event, 98)
	for i := range o {
		o[i] = oper(api.Join, 0, api.Bad, 2*i, 2*i+1)
		l[2*i] = api.Event{Call: o[i].Call}
		l[2*i+1] = api.Event{Back: true, Answer: o[i].Answer}
	}
	o[0].Answer.Kind = api.Done
	l[1].Answer.Kind = api.Done
	if got, ok := Find(o, 1); len(got) != 0 || ok || Tries(o, 1) != 0 || Linear(l) {
		t.Error("of more than 48 opers nothing is told")
	}
	if got, ok := Find(o[:48], 1); len(got) != 48 || !ok || Tries(o[:48], 1) != 49 || !Linear(l[:96]) {
		t.Error("48 opers are not too many")
	}
	if Linear(l[1:3]) || !Linear(nil) {
		t.Error("a history that may not be")
	}
}
