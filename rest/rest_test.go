package rest

import (
	"math"
	"testing"

	"deadwood/api"
	"deadwood/badge"
	"deadwood/core"
	"deadwood/edge"
	"deadwood/hist"
	"deadwood/index"
	"deadwood/legal"
	"deadwood/lin"
	"deadwood/order"
	"deadwood/pairs"
	"deadwood/plan"
	"deadwood/rig"
	"deadwood/run"
	"deadwood/word"
)

func machine(slots int) *core.Machine {
	m, _ := core.New(api.Conf{Threads: 2, Slots: slots, Stamps: 99})
	return m
}

func store(m *core.Machine, slot, field int, w uint64) { m.Mem().Store(m.Plan().Node(slot, field), w) }

func TestAtFirst(t *testing.T) { // 33.1
	for _, slots := range []int{7, 30, 250} {
		m := machine(slots)
		if s := Look(m); s != (Sight{Nodes: 5, Deep: 2, Free: slots - 5, Held: 5, Whole: true}) || !Tidy(m) || len(Map(m)) != 0 {
			t.Errorf("seen is %v", s)
		}
		if m.Mem().Accesses() != 0 || m.Fault() {
			t.Error("who looks has no access")
		}
	}
	if Look(nil) != (Sight{}) || len(Map(nil)) != 0 || Tidy(nil) {
		t.Error("a nil machine has something")
	}
}

// forest is a machine with keys, each with less of it as its value.
func forest(keys ...int64) *core.Machine {
	m := machine(30)
	for _, k := range keys {
		rig.Plant(m, k, -k, 1)
	}
	return m
}

func TestATree(t *testing.T) { // 33.1
	m := forest(5, math.MaxInt64, 2, math.MinInt64, 9)
	deep := 0
	for _, n := range rig.Tree(m) {
		deep = max(deep, n.Deep)
	}
	want := Sight{Nodes: 15, Leaves: 5, Deep: deep, Free: 15, Held: 15, Whole: true}
	all := []api.Pair{{Key: math.MinInt64, Val: math.MinInt64}, {Key: 2, Val: -2}, {Key: 5, Val: -5}, {Key: 9, Val: -9}, {Key: math.MaxInt64, Val: -math.MaxInt64}}
	if s := Look(m); s != want || !Tidy(m) || !pairs.Same(Map(m), all) {
		t.Fatalf("seen is %v: %v", s, Map(m))
	}
	leaf, _ := rig.Leaf(m, 5)
	store(m, leaf.Edge.Slot(), plan.Died, 3)
	want.Dead = 1
	if s := Look(m); s != want || Tidy(m) || !pairs.Same(Map(m), append(all[:2:2], all[3:]...)) {
		t.Errorf("of a dead leaf is seen %v: %v", s, Map(m))
	}
	store(m, leaf.Edge.Slot(), plan.Died, 0)
	for marks, more := range map[edge.Edge]Sight{leaf.Edge.Flagged(): {Flags: 1}, leaf.Edge.Tagged(): {Tags: 1}, leaf.Edge.Flagged().Tagged(): {Flags: 1, Tags: 1}} {
		store(m, leaf.Parent.Slot(), plan.Left+leaf.Side, uint64(marks))
		want.Dead, want.Flags, want.Tags = 0, more.Flags, more.Tags
		if s := Look(m); s != want || Tidy(m) || !pairs.Same(Map(m), all) {
			t.Errorf("of an edge with marks is seen %v", s)
		}
	}
	store(m, leaf.Parent.Slot(), plan.Left+leaf.Side, uint64(leaf.Edge))
	m.Guard().Take(30)
	if s := Look(m); s.Held != 16 || Tidy(m) {
		t.Error("what is held is neither in the tree nor away")
	}
}

func TestATreeThatIsNotWhole(t *testing.T) { // 33.1
	m := forest(5, 2)
	inner := 0
	for _, n := range rig.Tree(m) {
		if !n.Leaf {
			inner = n.Edge.Slot()
		}
	}
	store(m, inner, plan.Left, uint64(edge.Make(1, 0)))
	if s := Look(m); s.Whole || s.Nodes != 31 || s.Held != 9 || s.Free != 21 || Tidy(m) || len(Map(m)) != 0 {
		t.Errorf("of a tree that goes round is seen %v", s)
	}
	m = forest(5, 2)
	leaf, _ := rig.Leaf(m, 5)
	other, _ := rig.Leaf(m, 2)
	store(m, other.Parent.Slot(), plan.Left+other.Side, uint64(leaf.Edge))
	if s := Look(m); s.Whole || s.Nodes != 9 || s.Leaves != 2 || Tidy(m) || len(Map(m)) != 0 {
		t.Errorf("of a slot that is come to twice is seen %v", s)
	}
}

func TestEdgesToNoSlot(t *testing.T) { // 33.1: that Look ends
	for _, w := range []uint64{0, 31, 4095, edge.Tag, math.MaxUint64} {
		for slot := 1; slot <= 5; slot++ {
			for field := range 7 {
				m := machine(30)
				store(m, slot, field, w)
				Look(m)
				Map(m)
				Tidy(m)
			}
		}
	}
}

func TestAwayAndFree(t *testing.T) { // 33.1
	m := machine(30)
	p := m.Plan()
	for slot := 6; slot <= 12; slot++ {
		m.Guard().Take(slot)
	}
	m.Mem().Store(plan.Free, badge.Head(13, 77))
	m.Mem().Store(p.Bag(0, 0), uint64(edge.Make(6, 0)))
	store(m, 6, plan.Link, uint64(edge.Make(7, 0)))
	store(m, 7, plan.Link, 0)
	m.Mem().Store(p.Bag(1, 2), uint64(edge.Make(8, 5).Tagged()))
	store(m, 8, plan.Link, uint64(edge.Make(9, 1<<50-1)))
	store(m, 9, plan.Link, uint64(edge.Make(10, 0)))
	store(m, 10, plan.Link, uint64(edge.Make(11, 3)))
	store(m, 11, plan.Link, uint64(edge.Make(12, 0)))
	store(m, 12, plan.Link, 0)
	if s := Look(m); s.Away != 7 || s.Free != 18 || s.Held != 12 || !Tidy(m) {
		t.Fatalf("seen is %v", s)
	}
	store(m, 12, plan.Link, uint64(edge.Make(10, 9)))
	if s := Look(m); s.Away != 7 || !Tidy(m) {
		t.Errorf("a list that goes round has %d", s.Away)
	}
	for _, nowhere := range []uint64{0, 31, 4095, uint64(edge.Make(0, 9)), math.MaxUint64} {
		store(m, 9, plan.Link, nowhere)
		if s := Look(m); s.Away != 4 || Tidy(m) {
			t.Errorf("a list that leads nowhere has %d", s.Away)
		}
	}
	store(m, 9, plan.Link, uint64(edge.Make(10, 0)))
	store(m, 12, plan.Link, uint64(edge.Make(6, 0)))
	if s := Look(m); s.Away != 9 || Tidy(m) {
		t.Errorf("of two lists that meet are away %d", s.Away)
	}
	store(m, 12, plan.Link, 0)
	for _, nowhere := range []uint64{0, 31, 4096 + 21, math.MaxUint64, 15, 20} {
		store(m, 20, plan.Link, nowhere)
		if s := Look(m); s.Free != 8 || Tidy(m) {
			t.Errorf("a free list that ends with %d has %d", nowhere, s.Free)
		}
	}
	store(m, 20, plan.Link, 21)
	if !Tidy(m) {
		t.Error("all is as it was")
	}
	m.Mem().Store(plan.Free, badge.Head(0, 5))
	if s := Look(m); s.Free != 0 || Tidy(m) {
		t.Error("nothing is free")
	}
	m.Mem().Store(plan.Free, badge.Head(4095, 5))
	if s := Look(m); s.Free != 0 || Tidy(m) {
		t.Error("a head that leads nowhere")
	}
}

// TestNumbersAreNotEnough has as many slots free as there should be, but others.
func TestNumbersAreNotEnough(t *testing.T) { // 33.1
	m := machine(9)
	m.Mem().Store(plan.Free, badge.Head(5, 0))
	store(m, 5, plan.Link, 7)
	if s := Look(m); s.Free != 4 || Tidy(m) {
		t.Errorf("a slot of the tree is free, another one is nowhere: %v", s)
	}
	m = machine(9)
	m.Guard().Drop(5)
	m.Guard().Take(6)
	if Tidy(m) {
		t.Error("a slot of the tree isn't held, and a free one is")
	}
	m = machine(9)
	store(m, 4, plan.Info, order.Info(true, 0))
	store(m, 4, plan.Key, word.Bits(-8))
	store(m, 4, plan.Value, 6)
	if !pairs.Same(Map(m), []api.Pair{{Key: -8, Val: 6}}) || Look(m).Leaves != 1 {
		t.Error("users' leaves are those of Class 0")
	}
}

// games has scripts played as the dice say, of which each thread comes to its end, alone, then.
func games(t *testing.T, look func(r *run.Run)) {
	d := rig.Dice(35)
	for i := range 250 {
		c := api.Conf{Threads: 1 + i%6, Slots: []int{250, 60, 30}[i%3], Stamps: 9999}
		r, _ := run.New(c)
		calls := 0
		for th := range c.Threads {
			r.Do(api.Entry{Thread: th, Begin: true, Call: api.Call{Op: api.Join}})
			calls++
		}
		for calls < 44 {
			th := d.Below(c.Threads)
			lo := int64(d.Below(6))
			x := api.Call{Op: d.Below(15), Key: lo, Val: int64(d.Below(9)), Hi: lo + int64(d.Below(6)), Limit: 3}
			if d.Below(2) == 0 {
				x.Op = d.Below(2)
			}
			if r.Do(api.Entry{Thread: th, Begin: true, Call: x}) {
				calls++
			}
			for range d.Below(60) {
				r.Do(api.Entry{Thread: d.Below(c.Threads)})
			}
		}
		if !r.End(8*index.Most(c)) || r.Machine().Fault() {
			t.Fatal("somebody comes to no end, or the machine is at fault")
		}
		look(r)
	}
}

func TestWhateverThreadsCalled(t *testing.T) { // 33.2
	games(t, func(r *run.Run) {
		m := r.Machine()
		if !Tidy(m) {
			t.Fatalf("at rest is seen %v", Look(m))
		}
		o := hist.Opers(r.Events())
		l, ok := lin.Find(o, m.Threads())
		if !ok {
			t.Fatal("no order explains what was told")
		}
		if s, _ := legal.Behind(o, l, m.Threads()); !pairs.Same(s.Map, Map(m)) {
			t.Fatalf("the map is %v, not %v", Map(m), s.Map)
		}
	})
}

func TestWhatIsHeldThen(t *testing.T) { // 33.2
	games(t, func(r *run.Run) {
		m := r.Machine()
		call := func(th int, c api.Call) {
			r.Do(api.Entry{Thread: th, Begin: true, Call: c})
			r.End(index.Most(m.Plan().Conf()))
		}
		for th := range m.Threads() {
			call(th, api.Call{Op: api.Close})
			call(th, api.Call{Op: api.Join})
		}
		for th := range m.Threads() {
			for range 3 {
				call(th, api.Call{Op: api.Count})
			}
		}
		if s := Look(m); s.Held != 5+2*len(Map(m)) || s.Away != 0 || !Tidy(m) {
			t.Fatalf("behind three counts of each is seen %v, of %d keys", s, len(Map(m)))
		}
	})
}
