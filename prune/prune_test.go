package prune

import (
	"math"
	"slices"
	"testing"

	"deadwood/core"
	"deadwood/edge"
	"deadwood/limbo"
	"deadwood/plan"
	"deadwood/rig"
	seeking "deadwood/seek"
	"deadwood/word"
)

const most = 9999

func forest(keys ...int64) *rig.Rig {
	r := rig.New(2, 80, 9, Do)
	for _, k := range keys {
		rig.Plant(r.M, k, k, 1)
	}
	return r
}

// sought is Help's registers: a key, what Seek tells of it, and whether its leaf is dead.
func sought(r *rig.Rig, key int64, dead uint64) []uint64 {
	told, _ := r.Alone(0, most, seeking.Seek, word.Bits(key))
	return append(append([]uint64{word.Bits(key)}, told[:7]...), dead)
}

func mark(m *core.Machine, n rig.Node, e edge.Edge) {
	m.Mem().Store(m.Plan().Node(n.Parent.Slot(), plan.Left+n.Side), uint64(e))
}

// away is the nodes in a thread's bags.
func away(m *core.Machine, t int) []edge.Edge {
	var l []edge.Edge
	w := m.Mem().Words()
	for b := range 3 {
		for e := edge.Edge(w[m.Plan().Bag(t, b)]); e != 0; e = edge.Edge(w[m.Plan().Node(e.Slot(), plan.Link)]) {
			l = append(l, e)
		}
	}
	return l
}

var keys = []int64{50, 20, 80, 10, 30, 70, 90, 25, 35, math.MinInt64, math.MaxInt64, -1}

func TestHelpOfADeadLeaf(t *testing.T) { // 21.1, 21.2
	for n := 1; n <= len(keys); n++ {
		for _, key := range keys[:n] {
			for _, flagged := range []bool{false, true} {
				r := forest(keys[:n]...)
				leaf, _ := rig.Leaf(r.M, key)
				if flagged {
					mark(r.M, leaf, leaf.Edge.Flagged())
				}
				before := rig.Keys(r.M)
				held := r.M.Guard().Held()
				told, _ := r.Alone(0, most, Help, sought(r, key, 1)...)
				want := slices.DeleteFunc(before, func(k int64) bool { return k == key })
				if told != [12]uint64{1} || !slices.Equal(rig.Keys(r.M), want) || rig.Marks(r.M) != 0 {
					t.Fatalf("Help of %d tells %v: %v", key, told, rig.Keys(r.M))
				}
				if !slices.Equal(away(r.M, 0), []edge.Edge{leaf.Parent}) || r.M.Guard().Held() != held || len(away(r.M, 1)) != 0 || r.M.Fault() {
					t.Fatalf("away are %v, not the parent", away(r.M, 0))
				}
				if again, _ := r.Alone(0, most, Help, sought(r, key, 1)[:9]...); n > 1 && again[0] == 1 && len(rig.Keys(r.M)) == n-1 {
					t.Fatal("Help takes something out twice")
				}
			}
		}
	}
}

func TestHelpOfALiveLeaf(t *testing.T) { // 21.1
	for _, key := range keys {
		r := forest(keys...)
		was := r.M.Mem().Words()
		if told, _ := r.Alone(0, most, Help, sought(r, key, 0)...); told != [12]uint64{} || !slices.Equal(r.M.Mem().Words(), was) {
			t.Errorf("Help of %d, whose edge is plain, does something", key)
		}
		leaf, _ := rig.Leaf(r.M, key)
		mark(r.M, leaf, leaf.Edge.Flagged())
		if told, _ := r.Alone(0, most, Help, sought(r, key, 0)...); told != [12]uint64{1} || slices.Contains(rig.Keys(r.M), key) {
			t.Errorf("Help of %d, whose edge is flagged, leaves it", key)
		}
	}
}

func TestHelpOfALeafWithADeadSibling(t *testing.T) { // 21.1
	r := forest(50, 20)
	dead, _ := rig.Leaf(r.M, 20)
	live, _ := rig.Leaf(r.M, 50)
	if dead.Parent != live.Parent {
		t.Fatal("they are no siblings")
	}
	mark(r.M, dead, dead.Edge.Flagged())
	mark(r.M, live, live.Edge.Tagged())
	if told, _ := r.Alone(0, most, Help, sought(r, 50, 0)...); told != [12]uint64{1} || !slices.Equal(rig.Keys(r.M), []int64{50}) || rig.Marks(r.M) != 0 {
		t.Error("the dead sibling is taken out")
	}
}

func TestHelpThatComesTooLate(t *testing.T) { // 21.1
	r := forest(keys...)
	old := sought(r, 25, 1)
	rig.Plant(r.M, 26, 0, 1)
	rig.Plant(r.M, 24, 0, 1)
	was := r.M.Mem().Words()
	if told, _ := r.Alone(0, most, Help, old...); told != [12]uint64{} || !slices.Equal(r.M.Mem().Words(), was) {
		t.Error("the edge doesn't lead to the place any more")
	}
	r = forest(keys...)
	leaf, _ := rig.Leaf(r.M, 25)
	r.M.Thread(0).Call(Help, sought(r, 25, 1)...)
	r.M.Step(0, Do)
	mark(r.M, leaf, leaf.Edge.Tagged())
	for r.M.Step(0, Do) {
	}
	if r.M.Thread(0).Ret != [12]uint64{} || !slices.Contains(rig.Keys(r.M), 25) {
		t.Error("the edge isn't plain any more when it becomes flagged")
	}
}

func TestPruneThatFails(t *testing.T) { // 21.1
	for _, change := range []edge.Edge{edge.Edge(0).Flagged(), edge.Edge(edge.Tag), 1} {
		r := forest(keys...)
		told := sought(r, 25, 1)
		leaf, _ := rig.Leaf(r.M, 25)
		mark(r.M, leaf, leaf.Edge.Flagged())
		at := r.M.Plan().Node(edge.Edge(told[1]).Slot(), plan.Left+int(told[2]))
		r.M.Mem().Store(at, uint64(edge.Edge(told[3])^change))
		if got, _ := r.Alone(0, most, Prune, told[:6]...); got != [12]uint64{} || len(away(r.M, 0)) != 0 {
			t.Error("the ancestor's edge isn't the plain one of the successor")
		}
		if w := r.M.Mem().Words(); edge.Edge(w[at]) != edge.Edge(told[3])^change {
			t.Error("what fails changes nothing")
		}
	}
}

// TestPruneOfAWay has edges on the way of a key tagged from a node on, as when all leaves beside it are dead.
func TestPruneOfAWay(t *testing.T) { // 21.1, 21.2
	for long := 1; long <= 5; long++ {
		for _, flag := range []bool{false, true} {
			r := forest(60, 50, 40, 30, 20, 10) // a comb: each key's parent is the left child of the one ahead
			leaf, _ := rig.Leaf(r.M, 10)
			var way []rig.Node
			for e := leaf.Parent; len(way) < long; {
				for _, n := range rig.Tree(r.M) {
					if n.Edge.Node() == e {
						way = append([]rig.Node{n}, way...)
						e = n.Parent
						break
					}
				}
			}
			for _, n := range way[1:] {
				mark(r.M, n, n.Edge.Tagged())
			}
			for _, n := range rig.Tree(r.M) { // the leaves beside the way
				for _, x := range way[:len(way)-1] {
					if n.Parent == x.Edge.Node() && n.Leaf {
						mark(r.M, n, n.Edge.Flagged())
					}
				}
			}
			sibling := leaf
			for _, n := range rig.Tree(r.M) {
				if n.Parent == leaf.Parent && n.Edge != leaf.Edge {
					sibling = n
				}
			}
			mark(r.M, leaf, leaf.Edge.Flagged())
			if flag { // the sibling's own flag stays, its tag goes
				mark(r.M, sibling, sibling.Edge.Flagged())
			}
			told, _ := r.Alone(1, most, Help, sought(r, 10, 1)...)
			want := []edge.Edge{}
			for _, n := range way {
				want = append([]edge.Edge{n.Edge.Node()}, want...)
			}
			if told != [12]uint64{1} || !slices.Equal(away(r.M, 1), want) {
				t.Fatalf("%d nodes on the way: away are %v, not %v", long, away(r.M, 1), want)
			}
			for _, n := range rig.Tree(r.M) {
				if n.Edge.Tag() || n.Edge.Flag() != (flag && n.Key == sibling.Key && n.Leaf) {
					t.Errorf("%d nodes on the way: marks of %v", long, n)
				}
			}
			if got := rig.Keys(r.M); len(got) != 6-long || got[0] != sibling.Key.N || r.M.Fault() {
				t.Errorf("%d nodes on the way: left are %v", long, got)
			}
		}
	}
}

func TestOtherRoutines(t *testing.T) { // 21.1
	r := rig.New(1, 8, 9, Do)
	if told, _ := r.Alone(0, 99, seeking.Seek, 5); told[5] != 3 {
		t.Error("Seek is done")
	}
	if _, steps := r.Alone(0, 99, limbo.Clean); steps == 99 {
		t.Error("Clean is done")
	}
	if fn, is := r.DoesNone(0, 39, 42, 50); !is {
		t.Errorf("routine %d is done", fn)
	}
}
