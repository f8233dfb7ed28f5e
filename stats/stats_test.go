package stats

import (
	"math"
	"testing"

	"deadwood/api"
	"deadwood/call"
	"deadwood/hist"
	"deadwood/rig"
)

func begin(t, op int) api.Event { return api.Event{Thread: t, Call: api.Call{Op: op}} }

func back(t, kind int, pairs ...api.Pair) api.Event {
	return api.Event{Thread: t, Back: true, Answer: api.Answer{Kind: kind, Pairs: pairs}}
}

// slow is the document's words, pair of opers by pair.
func slow(l []api.Event) Sum {
	var s Sum
	all := hist.Opers(l)
	for i, o := range all {
		if o.Call.Op >= 0 && o.Call.Op <= 14 {
			s.Opers[o.Call.Op]++
			if o.To < 0 {
				s.Open[o.Call.Op]++
			}
		}
		if o.To >= 0 && o.Answer.Kind >= 0 && o.Answer.Kind <= 8 {
			s.Kinds[o.Answer.Kind]++
		}
		if o.To >= 0 && o.Answer.Kind == api.List {
			s.Pairs += len(o.Answer.Pairs)
		}
		overlaps := false
		open := 0
		for j, p := range all {
			overlaps = overlaps || i != j && !hist.Ahead(o, p) && !hist.Ahead(p, o)
			if p.From <= o.From && (p.To < 0 || p.To > o.From) {
				open++
			}
		}
		if overlaps {
			s.Overlaps++
		}
		s.Most = max(s.Most, open)
	}
	return s
}

// some is a history as the dice say, with Ops and Kinds that are none, too.
func some(d *rig.Dice, n, threads int) []api.Event {
	var l []api.Event
	var within [6]bool
	for range n {
		t := d.Below(threads)
		if within[t] {
			l = append(l, back(t, d.Below(11)-1, make([]api.Pair, d.Below(3))...))
		} else {
			l = append(l, begin(t, d.Below(17)-1))
		}
		within[t] = !within[t]
	}
	return l
}

func TestOf(t *testing.T) { // 38.1, 38.3
	d := rig.Dice(47)
	for i := range 500 {
		l := some(&d, i%40, 1+i%6)
		s := Of(l)
		if s != slow(l) {
			t.Fatalf("%v: %v, not %v", l, s, slow(l))
		}
		if i%6 == 0 && (s.Overlaps != 0 || s.Most > 1) {
			t.Fatal("who calls alone overlaps nobody")
		}
	}
	if Of(nil) != (Sum{}) {
		t.Error("a history of nothing")
	}
	if s := Of([]api.Event{begin(0, 3), back(0, 3, api.Pair{}, api.Pair{})}); s.Opers[3] != 1 || s.Kinds[3] != 1 || s.Pairs != 2 || s.Overlaps != 0 || s.Most != 1 || s.Open != [15]int{} {
		t.Errorf("the example: %v", s)
	}
	for i, l := range [][]api.Event{{back(0, 0)}, {begin(0, 0), begin(0, 0)}, {begin(6, 0)}, {begin(-1, 0)}, {begin(0, 0), back(1, 0)}} {
		if Of(l) != (Sum{}) {
			t.Errorf("history %d may not be", i)
		}
		for range Calls(l, 0) {
			t.Errorf("history %d has opers", i)
		}
	}
}

func TestAnswersAndOpenOnes(t *testing.T) { // 38.3
	d := rig.Dice(48)
	for range 100 {
		l := some(&d, 60, 6)
		s := Of(l)
		opers, open, kinds := 0, 0, 0
		for op := range 15 {
			opers += s.Opers[op]
			open += s.Open[op]
		}
		for _, n := range s.Kinds {
			kinds += n
		}
		for _, o := range hist.Opers(l) { // those of what is none
			if o.Call.Op < 0 || o.Call.Op > 14 {
				opers++
				if o.To < 0 {
					open++
				}
			}
			if o.To >= 0 && (o.Answer.Kind < 0 || o.Answer.Kind > 8) {
				kinds++
			}
		}
		if kinds != opers-open || open != hist.Open(l) {
			t.Fatalf("%d answers of %d opers, of which %d are open", kinds, opers, open)
		}
	}
}

func TestCalls(t *testing.T) { // 38.2
	d := rig.Dice(49)
	for range 50 {
		l := some(&d, 60, 6)
		for op := -2; op < 18; op++ {
			var want []api.Oper
			for _, o := range hist.Opers(l) {
				if o.Call.Op == op {
					want = append(want, o)
				}
			}
			seq := Calls(l, op)
			for range 2 {
				n := 0
				for o := range seq {
					if n >= len(want) || o.From != want[n].From || o.To != want[n].To || o.Thread != want[n].Thread || o.Call != want[n].Call || !call.Same(o.Answer, want[n].Answer) {
						t.Fatalf("oper %d with Op %d is %v", n, op, o)
					}
					if len(o.Answer.Pairs) > 0 {
						o.Answer.Pairs[0].Val = 77
					}
					n++
				}
				if n != len(want) {
					t.Fatalf("%d opers with Op %d, not %d", n, op, len(want))
				}
			}
			for range seq {
				break
			}
		}
	}
}

func TestRate(t *testing.T) { // 38.2
	var s Sum
	s.Opers, s.Open = [15]int{0: 3, 5: 4, 14: 7}, [15]int{0: 1, 5: 4}
	for op, want := range map[int]int{0: 66, 5: 0, 14: 100} {
		if n, ok := Rate(s, op); n != want || !ok {
			t.Errorf("Rate of %d is %d", op, n)
		}
	}
	for _, op := range []int{1, -1, 15, math.MaxInt, math.MinInt} {
		if n, ok := Rate(s, op); n != 0 || ok {
			t.Errorf("Rate of %d is %d", op, n)
		}
	}
	s.Opers[2] = -1
	Rate(s, 2)
}
