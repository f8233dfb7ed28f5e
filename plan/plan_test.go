package plan

import (
	"math"
	"testing"

	"deadwood/api"
)

func conf(threads, slots int, stamps uint64) api.Conf {
	return api.Conf{Threads: threads, Slots: slots, Stamps: stamps}
}

func TestMay(t *testing.T) { // 5.1
	for _, c := range []api.Conf{conf(1, 7, 1), conf(6, 250, 1<<40), conf(3, 20, 9)} {
		if p, e := New(c); !May(c) || p == nil || e != api.OK || p.Conf() != c {
			t.Errorf("%v may be", c)
		}
	}
	for _, c := range []api.Conf{{}, conf(0, 7, 1), conf(7, 7, 1), conf(-1, 7, 1), conf(1, 6, 1), conf(1, 251, 1), conf(1, -7, 1), conf(1, 7, 0), conf(1, 7, 1<<40+1), conf(math.MaxInt, math.MaxInt, math.MaxUint64), conf(math.MinInt, 7, 1)} {
		if p, e := New(c); May(c) || p != nil || e != api.ErrArg {
			t.Errorf("%v may not be", c)
		}
	}
}

// laid is the places that the document's order gives, one behind the other.
func laid(c api.Conf) []Place {
	l := []Place{{Alone, Clock, 0}, {Alone, Epoch, 0}, {Alone, Free, 0}}
	for t := range c.Threads {
		l = append(l, Place{Active, t, 0}, Place{Victim, t, 0})
		for b := range 3 {
			l = append(l, Place{Stamp, t, b})
		}
		for b := range 3 {
			l = append(l, Place{Bag, t, b})
		}
	}
	for s := 1; s <= c.Slots; s++ {
		for f := range 7 {
			l = append(l, Place{Node, s, f})
		}
	}
	return l
}

func placeOf(p *Plan, w Place) int {
	switch w.Kind {
	case Active:
		return p.Active(w.I)
	case Victim:
		return p.Victim(w.I)
	case Stamp:
		return p.Stamp(w.I, w.J)
	case Bag:
		return p.Bag(w.I, w.J)
	case Node:
		return p.Node(w.I, w.J)
	}
	return w.I
}

func TestEachWordIsOneThing(t *testing.T) { // 5.1, 5.2, 5.3
	for _, c := range []api.Conf{conf(1, 7, 1), conf(2, 9, 5), conf(6, 250, 1<<40)} {
		p, _ := New(c)
		l := laid(c)
		if p.Words() != len(l) {
			t.Fatalf("%d words, not %d", p.Words(), len(l))
		}
		for a, want := range l {
			if got, ok := p.What(a); got != want || !ok {
				t.Errorf("What(%d) = %v %v, not %v", a, got, ok, want)
			}
			if placeOf(p, want) != a {
				t.Errorf("%v stands at %d, not at %d", want, placeOf(p, want), a)
			}
		}
		for _, a := range []int{-1, len(l), math.MaxInt, math.MinInt} {
			if got, ok := p.What(a); got != (Place{}) || ok {
				t.Errorf("there is no word at %d", a)
			}
		}
	}
}

func TestNoSuchPlace(t *testing.T) { // 5.1
	p, _ := New(api.Conf{Threads: 2, Slots: 9, Stamps: 5})
	for _, i := range []int{-1, 2, math.MaxInt, math.MinInt} {
		if p.Active(i) != -1 || p.Victim(i) != -1 || p.Stamp(i, 0) != -1 || p.Bag(i, 0) != -1 {
			t.Errorf("there is no thread %d", i)
		}
	}
	for _, b := range []int{-1, 3, math.MaxInt, math.MinInt} {
		if p.Stamp(0, b) != -1 || p.Bag(1, b) != -1 {
			t.Errorf("there is no bag %d", b)
		}
	}
	for _, s := range []int{-1, 0, 10, math.MaxInt, math.MinInt} {
		if p.Node(s, 0) != -1 {
			t.Errorf("there is no slot %d", s)
		}
	}
	for _, f := range []int{-1, 7, math.MaxInt, math.MinInt} {
		if p.Node(1, f) != -1 {
			t.Errorf("there is no field %d", f)
		}
	}
	one, _ := New(api.Conf{Threads: 1, Slots: 7, Stamps: 1})
	if one.Node(1, Link) != 11 || Value != Left || Born != Right {
		t.Error("the example")
	}
}

func TestNilPlan(t *testing.T) { // 5.2
	var p *Plan
	if p.Conf() != (api.Conf{}) || p.Words() != 0 || p.Active(0) != -1 || p.Victim(0) != -1 || p.Stamp(0, 0) != -1 || p.Bag(0, 0) != -1 || p.Node(1, 0) != -1 {
		t.Error("a nil plan has places")
	}
	if w, ok := p.What(0); w != (Place{}) || ok {
		t.Error("a nil plan has words")
	}
}

func TestNumbers(t *testing.T) { // 5.1, 5.2: the numbers as the document has them
	if Clock != 0 || Epoch != 1 || Free != 2 || Link != 0 || Gen != 1 || Info != 2 || Key != 3 || Left != 4 || Right != 5 || Died != 6 || Value != 4 || Born != 5 {
		t.Error("words and fields")
	}
	if Alone != 0 || Active != 1 || Victim != 2 || Stamp != 3 || Bag != 4 || Node != 5 {
		t.Error("kinds")
	}
}
