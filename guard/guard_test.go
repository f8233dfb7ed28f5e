package guard

import (
	"math"
	"testing"

	"deadwood/edge"
)

func TestNew(t *testing.T) { // 7.1
	for _, n := range []int{1, 7, 250} {
		g := New(n)
		if g == nil || g.Held() != 0 || g.Slips() != 0 {
			t.Fatalf("a guard of %d slots", n)
		}
		for slot := 1; slot <= n; slot++ {
			if g.Edge(slot) != edge.Make(slot, 0) || g.Leads(g.Edge(slot)) {
				t.Errorf("slot %d at first", slot)
			}
		}
		if g.Edge(0) != 0 || g.Edge(-1) != 0 || g.Edge(n+1) != 0 || g.Edge(math.MaxInt) != 0 || g.Edge(math.MinInt) != 0 {
			t.Error("there is no such slot")
		}
	}
	for _, n := range []int{0, -1, 251, math.MaxInt, math.MinInt} {
		if New(n) != nil {
			t.Errorf("a guard has not %d slots", n)
		}
	}
}

func TestTakeAndDrop(t *testing.T) { // 7.1, 7.2, 7.3
	g := New(9)
	first := g.Edge(3)
	if !g.Take(3) || g.Held() != 1 || !g.Leads(first) || g.Slips() != 0 {
		t.Fatal("a slot is taken")
	}
	for _, e := range []edge.Edge{first.Flagged(), first.Tagged(), first.Flagged().Tagged()} {
		if !g.Leads(e) {
			t.Error("marks play no part")
		}
	}
	if !g.Drop(first.Flagged()) || g.Held() != 0 || g.Edge(3) != 4099 || g.Leads(first) || g.Leads(g.Edge(3)) {
		t.Fatal("a slot is given up")
	}
	if !g.Take(3) || g.Leads(first) || !g.Leads(g.Edge(3)) || g.Held() != 1 {
		t.Error("what was dropped is led to by no edge of before")
	}
	if g.Take(5); g.Held() != 2 || g.Slips() != 0 {
		t.Error("two are held")
	}
}

func TestSlips(t *testing.T) { // 7.1, 7.2
	g := New(9)
	g.Take(3)
	slips := 0
	slip := func(told bool, what string) {
		t.Helper()
		slips++
		if told || g.Slips() != slips || g.Held() != 1 || g.Edge(3) != 3 || !g.Leads(3) || g.Edge(4) != 4 {
			t.Errorf("%s: %v, %d slips", what, told, g.Slips())
		}
	}
	slip(g.Take(3), "what is held is taken")
	for _, slot := range []int{0, -1, 10, math.MaxInt, math.MinInt} {
		slip(g.Take(slot), "a slot that is none is taken")
	}
	slip(g.Drop(edge.Make(3, 1)), "an edge of another generation")
	slip(g.Drop(edge.Make(4, 0)), "a slot that isn't held")
	slip(g.Drop(0), "an edge to nothing")
	slip(g.Drop(edge.Make(4095, 0)), "a slot that is none")
}

func TestGenerationsWrapRound(t *testing.T) { // 7.1
	g := New(2)
	g.gens[0] = 1<<50 - 1
	g.Take(1)
	if !g.Drop(g.Edge(1)) || g.Edge(1) != edge.Make(1, 0) {
		t.Error("a generation has 50 bits")
	}
}

func TestClone(t *testing.T) { // 7.2
	g := New(9)
	g.Take(3)
	g.Take(3)
	c := g.Clone()
	if c.Held() != 1 || c.Slips() != 1 || !c.Leads(3) {
		t.Error("a clone is as what it was made of")
	}
	c.Drop(3)
	c.Take(4)
	c.Take(5)
	if g.Held() != 1 || !g.Leads(3) || g.Leads(4) || g.Edge(3) != 3 || c.Held() != 2 {
		t.Error("a clone is by itself")
	}
	g.Take(6)
	if c.Leads(6) {
		t.Error("a clone is by itself, the other way round")
	}
}

func TestNilGuard(t *testing.T) { // 7.2
	var g *Guard
	if g.Take(1) || g.Drop(1) || g.Leads(1) || g.Edge(1) != 0 || g.Held() != 0 || g.Slips() != 0 || g.Clone() != nil {
		t.Error("a nil guard has something")
	}
}
