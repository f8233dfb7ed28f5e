package audit

import (
	"math"
	"slices"
	"testing"

	"deadwood/api"
	"deadwood/badge"
	"deadwood/core"
	"deadwood/edge"
	"deadwood/order"
	"deadwood/plan"
	"deadwood/rig"
	"deadwood/run"
	"deadwood/word"
)

func forest(keys ...int64) *core.Machine {
	m, _ := core.New(api.Conf{Threads: 2, Slots: 30, Stamps: 99})
	for _, k := range keys {
		rig.Plant(m, k, k, 1)
	}
	return m
}

func store(m *core.Machine, slot, field int, w uint64) { m.Mem().Store(m.Plan().Node(slot, field), w) }

func told(t *testing.T, m *core.Machine, want ...string) {
	t.Helper()
	if got := Words(Of(m)); !slices.Equal(got, want) {
		t.Errorf("told are %v, not %v", got, want)
	}
}

// lead has the edge to a key's leaf be another one.
func lead(m *core.Machine, key int64, change func(e edge.Edge) edge.Edge) rig.Node {
	leaf, _ := rig.Leaf(m, key)
	store(m, leaf.Parent.Slot(), plan.Left+leaf.Side, uint64(change(leaf.Edge)))
	return leaf
}

func TestNothingIsWrong(t *testing.T) { // 41.1
	told(t, nil)
	m := forest()
	told(t, m)
	if m.Mem().Accesses() != 0 || m.Fault() {
		t.Error("who looks has no access")
	}
	told(t, forest(5, 2, math.MaxInt64, math.MinInt64, 7))
}

func TestLoose(t *testing.T) { // 41.1
	m := forest(5, 2) // 5: slots 6 and 7, 2: slots 8 and 9
	lead(m, 5, func(e edge.Edge) edge.Edge { return edge.Make(e.Slot(), 1) })
	told(t, m, "loose 6")
	m = forest(5, 2)
	m.Guard().Drop(8)
	m.Guard().Drop(1)
	told(t, m, "loose 1", "loose 8")
	m = forest(5, 2)
	leaf := lead(m, 5, edge.Edge.Flagged)
	store(m, leaf.Edge.Slot(), plan.Died, 1)
	told(t, m)
}

func TestTwice(t *testing.T) { // 41.1
	m := forest(5, 2)
	p := m.Plan()
	m.Mem().Store(p.Bag(1, 2), 6) // a leaf of the tree is away, too
	store(m, 6, plan.Link, 0)
	told(t, m, "twice 6")
	m.Mem().Store(p.Bag(0, 1), uint64(edge.Make(9, 5).Tagged()))
	store(m, 9, plan.Link, uint64(edge.Make(6, 3)))
	told(t, m, "twice 9", "twice 6", "twice 6")
	store(m, 6, plan.Link, uint64(edge.Make(9, 0))) // the lists go round, and are told up to there
	told(t, m, "twice 9", "twice 6", "twice 6", "twice 9")
	m = forest(5, 2)
	m.Mem().Store(plan.Free, badge.Head(4, 9))
	store(m, 4, plan.Link, 12)
	told(t, m, "twice 4")
	m.Mem().Store(p.Bag(0, 0), 20)
	store(m, 20, plan.Link, 0)
	told(t, m, "twice 4", "twice 20")
	store(m, 20, plan.Link, 21)
	told(t, m, "twice 4", "twice 20", "twice 21", "twice 22", "twice 23", "twice 24", "twice 25", "twice 26", "twice 27", "twice 28", "twice 29", "twice 30")
	store(m, 21, plan.Link, 4096+22) // an edge to slot 22, and as a whole word no slot
	told(t, m, "twice 4", "twice 20", "twice 21")
}

func TestOrder(t *testing.T) { // 41.1
	m := forest(1, 3, 5, 7)
	leaf, _ := rig.Leaf(m, 5)
	key := func(n int64) { store(m, leaf.Edge.Slot(), plan.Key, word.Bits(n)) }
	for n, want := range map[int64]string{4: "", 6: "", 3: "order", 1: "order", math.MinInt64: "order"} {
		key(n)
		if got := Words(Of(m)); (want == "") != (len(got) == 0) || want != "" && got[0] != want+" "+itoa(leaf.Edge.Slot()) {
			t.Errorf("5 as %d: %v", n, got)
		}
	}
	seven, _ := rig.Leaf(m, 7)
	key(7)
	told(t, m, "order "+itoa(seven.Edge.Slot()))
	key(math.MaxInt64)
	told(t, m, "order "+itoa(seven.Edge.Slot()))
	m = forest()
	store(m, 3, plan.Info, order.Info(true, 2)) // two leaves of Class 2, whose numbers are 0
	told(t, m, "order 4")
	store(m, 4, plan.Key, 1) // numbers of one Class, whatever these are
	told(t, m)
	store(m, 3, plan.Key, word.Bits(2))
	told(t, m, "order 4")
	m = forest()
	store(m, 3, plan.Info, order.Info(true, 0))
	store(m, 3, plan.Key, word.Bits(math.MaxInt64))
	told(t, m)
	store(m, 3, plan.Info, order.Info(true, 3))
	told(t, m, "order 4")
}

func itoa(n int) string { return Words([]Slip{{Slot: n}})[0][len("what "):] }

func TestAliveAndBare(t *testing.T) { // 41.1
	for _, dead := range []uint64{0, 1} {
		m := forest(5, 2)
		leaf := lead(m, 5, edge.Edge.Flagged)
		store(m, leaf.Edge.Slot(), plan.Died, dead)
		want := []string{"alive 6"}
		if dead != 0 {
			want = nil
		}
		told(t, m, want...)
	}
	m := forest()
	store(m, 2, plan.Left, uint64(edge.Make(3, 0).Flagged()))
	store(m, 3, plan.Died, 1)
	told(t, m, "alive 3") // no user's
	store(m, 2, plan.Left, 3)
	store(m, 1, plan.Left, uint64(edge.Make(2, 0).Flagged()))
	told(t, m, "alive 2")
	m = forest()
	store(m, 1, plan.Left, uint64(edge.Make(2, 0).Tagged()))
	store(m, 2, plan.Right, uint64(edge.Make(4, 0).Tagged()))
	told(t, m, "bare 2", "bare 4")
	m = forest()
	store(m, 2, plan.Left, uint64(edge.Make(3, 0).Tagged()))
	store(m, 2, plan.Right, uint64(edge.Make(4, 0).Flagged()))
	told(t, m, "alive 4")
	store(m, 2, plan.Right, uint64(edge.Make(4, 0).Flagged().Tagged()))
	told(t, m, "alive 4", "bare 4")
	store(m, 2, plan.Right, uint64(edge.Make(4, 0).Tagged()))
	told(t, m, "bare 3", "bare 4")
}

func TestKindsInOrder(t *testing.T) { // 41.1
	m := forest()
	m.Guard().Drop(5)
	m.Mem().Store(plan.Free, badge.Head(3, 0))
	store(m, 4, plan.Info, order.Info(true, 0))
	store(m, 1, plan.Left, uint64(edge.Make(2, 0).Flagged().Tagged()))
	told(t, m, "loose 5", "twice 3", "order 4", "alive 2", "bare 2")
	want := []Slip{{Loose, 5}, {Twice, 3}, {Order, 4}, {Alive, 2}, {Bare, 2}}
	if !slices.Equal(Of(m), want) {
		t.Errorf("told are %v", Of(m))
	}
}

func TestATreeThatIsNotWhole(t *testing.T) { // 41.1
	m := forest()
	m.Guard().Drop(5)
	store(m, 2, plan.Right, uint64(edge.Make(3, 7).Flagged().Tagged()))
	m.Mem().Store(m.Plan().Bag(0, 0), 4)
	m.Mem().Store(plan.Free, badge.Head(5, 0))
	told(t, m, "twice 3", "twice 5")
	m = forest()
	store(m, 2, plan.Left, 2) // 31 nodes are told: 1, and 2 again and again
	want := []string{}
	for range 29 {
		want = append(want, "twice 2")
	}
	told(t, m, want...)
}

func TestEdgesToNoSlot(t *testing.T) { // 41.1: that Of ends
	for _, w := range []uint64{0, 31, 4095, edge.Tag, math.MaxUint64} {
		for slot := 1; slot <= 30; slot++ {
			for field := range 7 {
				m := forest(5)
				store(m, slot, field, w)
				Of(m)
			}
		}
		for at := range forest().Plan().Node(1, 0) {
			m := forest(5)
			m.Mem().Store(at, w)
			Of(m)
		}
	}
}

func TestWords(t *testing.T) { // 41.1
	l := []Slip{{1, 3}, {2, 4}, {3, 5}, {4, 6}, {5, 7}, {0, 8}, {6, -9}, {math.MinInt, math.MaxInt}}
	want := []string{"loose 3", "twice 4", "order 5", "alive 6", "bare 7", "what 8", "what -9", "what 9223372036854775807"}
	if got := Words(l); !slices.Equal(got, want) || len(Words(nil)) != 0 {
		t.Errorf("written are %v", got)
	}
}

func TestBehindEveryStep(t *testing.T) { // 41.2
	d := rig.Dice(52)
	for i := range 60 {
		c := api.Conf{Threads: 1 + i%6, Slots: []int{60, 30, 20}[i%3], Stamps: 99}
		r, _ := run.New(c)
		keys := 1 + i%7
		for th := range c.Threads {
			r.Do(api.Entry{Thread: th, Begin: true, Call: api.Call{Op: api.Join}})
		}
		for range 300 {
			th := d.Below(c.Threads)
			x := api.Call{Op: d.Below(13), Key: int64(d.Below(keys)), Hi: 9, Limit: 3}
			if d.Below(3) > 0 {
				x.Op = d.Below(2)
			}
			r.Do(api.Entry{Thread: th, Begin: true, Call: x})
			for range 1 + d.Below(1+d.Below(40)) {
				if r.Do(api.Entry{Thread: th}); len(Of(r.Machine())) > 0 {
					t.Fatalf("game %d: %v", i, Words(Of(r.Machine())))
				}
			}
		}
		if r.Machine().Fault() {
			t.Fatal("the machine is at fault")
		}
	}
}
