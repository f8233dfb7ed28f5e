package rig

import (
	"deadwood/api"
	"deadwood/badge"
	"deadwood/core"
	"deadwood/edge"
	"deadwood/order"
	"deadwood/plan"
	"deadwood/word"
)

// Node is a node of the tree, as it is come to: by which edge, of which node, how deep below slot 1's.
type Node struct {
	Edge, Parent edge.Edge
	Side, Deep   int
	Leaf         bool
	Key          order.Key
	Val          int64
	Born, Died   uint64
}

// Tree is the nodes of a tree, each Left side ahead of its Right one; more than there are slots are not told.
func Tree(m *core.Machine) []Node {
	w := m.Mem().Words()
	field := func(e edge.Edge, field int) uint64 { return w[m.Plan().Node(e.Slot(), field)] }
	var out []Node
	var down func(n Node)
	down = func(n Node) {
		if len(out) > m.Plan().Conf().Slots {
			return
		}
		leaf, class, _ := order.Read(field(n.Edge, plan.Info))
		n.Leaf, n.Key = leaf, order.Key{Class: class, N: word.Signed(field(n.Edge, plan.Key))}
		if leaf {
			n.Val = word.Signed(field(n.Edge, plan.Value))
			n.Born, n.Died = field(n.Edge, plan.Born), field(n.Edge, plan.Died)
		}
		out = append(out, n)
		for side := 0; side < 2 && !leaf; side++ {
			down(Node{Edge: edge.Edge(field(n.Edge, plan.Left+side)), Parent: n.Edge.Node(), Side: side, Deep: n.Deep + 1})
		}
	}
	down(Node{Edge: edge.Make(1, 0)})
	return out
}

// Pairs is the users' keys, and their values, of the tree's leaves that aren't dead, in their order.
func Pairs(m *core.Machine) []api.Pair {
	var out []api.Pair
	for _, n := range Tree(m) {
		if n.Leaf && n.Key.Class == 0 && n.Died == 0 {
			out = append(out, api.Pair{Key: n.Key.N, Val: n.Val})
		}
	}
	return out
}

// Keys is the keys of these pairs.
func Keys(m *core.Machine) []int64 {
	var out []int64
	for _, p := range Pairs(m) {
		out = append(out, p.Key)
	}
	return out
}

// Marks is how many edges of the tree have a mark.
func Marks(m *core.Machine) int {
	n := 0
	for _, x := range Tree(m) {
		if !x.Edge.Plain() {
			n++
		}
	}
	return n
}

// Leaf is the leaf of a user's key.
func Leaf(m *core.Machine, key int64) (Node, bool) {
	for _, n := range Tree(m) {
		if n.Leaf && n.Key == order.User(key) {
			return n, true
		}
	}
	return Node{}, false
}

// take takes the free list's first slot, as no thread does.
func take(m *core.Machine) edge.Edge {
	w := m.Mem().Words()
	slot := badge.Slot(w[plan.Free])
	m.Mem().Store(plan.Free, badge.Changed(w[plan.Free], int(w[m.Plan().Node(slot, plan.Link)])))
	m.Guard().Take(slot)
	return edge.Make(slot, w[m.Plan().Node(slot, plan.Gen)])
}

// Plant puts a key that isn't there into a tree without marks, as no thread does.
func Plant(m *core.Machine, key, val int64, born uint64) {
	store := func(e edge.Edge, field int, n uint64) { m.Mem().Store(m.Plan().Node(e.Slot(), field), n) }
	at := Node{Edge: edge.Make(2, 0), Key: order.Top(2)}
	for _, n := range Tree(m) {
		if n.Parent == at.Edge.Node() && n.Side == order.Side(order.User(key), at.Key) {
			at = n
		}
	}
	leaf, inner := take(m), take(m)
	store(leaf, plan.Info, order.Info(true, 0))
	store(leaf, plan.Key, word.Bits(key))
	store(leaf, plan.Value, word.Bits(val))
	store(leaf, plan.Born, born)
	store(leaf, plan.Died, 0)
	above := order.Max(order.User(key), at.Key)
	store(inner, plan.Info, order.Info(false, above.Class))
	store(inner, plan.Key, word.Bits(above.N))
	side := order.Side(order.User(key), at.Key)
	store(inner, plan.Left+side, uint64(leaf))
	store(inner, plan.Left+1-side, uint64(at.Edge))
	store(at.Parent, plan.Left+at.Side, uint64(inner))
}

// Rest is what is wrong in memory at rest: marks, and slots that are not in the tree, in a bag or free, just once; empty, if nothing is.
func Rest(m *core.Machine) string {
	if m.Fault() {
		return "the machine is at fault"
	}
	if Marks(m) > 0 {
		return "an edge has a mark"
	}
	w := m.Mem().Words()
	link := func(slot int) uint64 { return w[m.Plan().Node(slot, plan.Link)] }
	seen := make([]int, m.Plan().Conf().Slots+1)
	held := 0
	for _, n := range Tree(m) {
		seen[n.Edge.Slot()]++
		held++
	}
	for t := range m.Threads() {
		for b := range 3 {
			for e := edge.Edge(w[m.Plan().Bag(t, b)]); e != 0 && seen[e.Slot()] < 2; e = edge.Edge(link(e.Slot())) {
				seen[e.Slot()]++
				held++
			}
		}
	}
	if held != m.Guard().Held() {
		return "not all that is held is in the tree or in a bag"
	}
	for s := badge.Slot(w[plan.Free]); s != 0 && seen[s] < 2; s = int(link(s)) {
		seen[s]++
	}
	for _, n := range seen[1:] {
		if n != 1 {
			return "a slot isn't in the tree, in a bag or free just once"
		}
	}
	return ""
}
