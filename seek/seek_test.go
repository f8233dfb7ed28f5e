package seek

import (
	"math"
	"slices"
	"testing"

	"deadwood/core"
	"deadwood/edge"
	"deadwood/epoch"
	"deadwood/limbo"
	"deadwood/order"
	"deadwood/plan"
	"deadwood/rig"
	"deadwood/word"
)

// slowSeek is the document's words, by the tree's nodes as they are.
func slowSeek(m *core.Machine, key int64) [12]uint64 {
	w := m.Mem().Words()
	field := func(e edge.Edge, field int) uint64 { return w[m.Plan().Node(e.Slot(), field)] }
	keyOf := func(e edge.Edge) order.Key {
		_, class, _ := order.Read(field(e, plan.Info))
		return order.Key{Class: class, N: word.Signed(field(e, plan.Key))}
	}
	k := order.User(key)
	one, two := edge.Make(1, 0), edge.Make(2, 0)
	ancestor, successor, parent := one, two, two
	e := edge.Edge(field(two, plan.Left))
	place := e.Node()
	for {
		if leaf, _, _ := order.Read(field(place, plan.Info)); leaf {
			break
		}
		next := edge.Edge(field(place, plan.Left+order.Side(k, keyOf(place))))
		if !e.Tag() {
			ancestor, successor = parent, place
		}
		parent, e, place = place, next, next.Node()
	}
	side := func(e edge.Edge) uint64 { return uint64(order.Side(k, keyOf(e))) }
	at := keyOf(place)
	return [12]uint64{uint64(ancestor), side(ancestor), uint64(successor), uint64(parent), side(parent), uint64(place), uint64(e), uint64(at.Class), word.Bits(at.N)}
}

var keys = []int64{50, 20, 80, 10, 30, 70, 90, 25, 35, math.MinInt64, math.MaxInt64, -1}

func TestAtFirst(t *testing.T) { // 20.1
	for _, key := range keys {
		r := rig.New(1, 7, 9, Do)
		told, steps := r.Alone(0, 99, Seek, word.Bits(key))
		if told != [12]uint64{1, 0, 2, 2, 0, 3, 3, 1, 0} || steps > 12 || r.M.Fault() {
			t.Errorf("Seek of %d tells %v within %d steps", key, told, steps)
		}
	}
}

func TestTreesWithoutMarks(t *testing.T) { // 20.1, 20.2
	r := rig.New(1, 60, 9, Do)
	for i, key := range keys {
		rig.Plant(r.M, key, int64(i), 1)
		was := r.M.Mem().Words()
		for _, k := range append([]int64{0, 15, 26, 55, 99}, keys...) {
			told, steps := r.Alone(0, 999, Seek, word.Bits(k))
			if told != slowSeek(r.M, k) {
				t.Fatalf("Seek of %d tells %v, not %v", k, told, slowSeek(r.M, k))
			}
			leaf, there := rig.Leaf(r.M, k)
			if there && (told[5] != uint64(leaf.Edge) || told[7] != 0 || told[8] != word.Bits(k)) {
				t.Fatalf("Seek of %d, that is there, comes to %v", k, told)
			}
			if !there && told[7] == 0 && told[8] == word.Bits(k) {
				t.Fatalf("Seek of %d comes to it", k)
			}
			deep := 0 // the place's way has a node less than it is deep, but slot 1's
			for _, n := range rig.Tree(r.M) {
				if uint64(n.Edge.Node()) == told[5] {
					deep = n.Deep
				}
			}
			if steps > 3*(deep-1)+3 {
				t.Errorf("Seek takes %d steps to a leaf %d deep", steps, deep)
			}
		}
		if !slices.Equal(r.M.Mem().Words(), was) || r.M.Fault() {
			t.Fatal("Seek changes a word")
		}
	}
}

func TestTreesWithMarks(t *testing.T) { // 20.1
	d := rig.Dice(2)
	for range 300 {
		r := rig.New(1, 60, 9, Do)
		for _, key := range keys {
			rig.Plant(r.M, key, 0, 1)
		}
		for _, n := range rig.Tree(r.M)[3:] {
			e := n.Edge
			if d.Below(3) == 0 {
				e = e.Tagged()
			}
			if d.Below(4) == 0 {
				e = e.Flagged()
			}
			if n.Key.Class == 0 || !n.Leaf {
				r.M.Mem().Store(r.M.Plan().Node(n.Parent.Slot(), plan.Left+n.Side), uint64(e))
			}
		}
		for _, k := range append([]int64{0, 26}, keys...) {
			if told, _ := r.Alone(0, 999, Seek, word.Bits(k)); told != slowSeek(r.M, k) {
				t.Fatalf("Seek of %d tells %v, not %v", k, told, slowSeek(r.M, k))
			}
		}
		if r.M.Fault() {
			t.Fatal("the machine is at fault")
		}
	}
}

func TestOtherRoutines(t *testing.T) { // 20.1
	r := rig.New(1, 8, 9, Do)
	if told, _ := r.Alone(0, 9, epoch.Advance); told[0] != 1 {
		t.Error("routines of the layers below are done")
	}
	if _, steps := r.Alone(0, 99, limbo.Clean); steps == 99 {
		t.Error("Clean is done")
	}
	if fn, is := r.DoesNone(0, 29, 31, 40); !is {
		t.Errorf("routine %d is done", fn)
	}
}
