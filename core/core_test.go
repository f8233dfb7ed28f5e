package core

import (
	"math"
	"slices"
	"testing"

	"deadwood/api"
	"deadwood/badge"
	"deadwood/edge"
	"deadwood/plan"
)

func machine(t *testing.T, threads, slots int) *Machine {
	t.Helper()
	m, e := New(api.Conf{Threads: threads, Slots: slots, Stamps: 9})
	if e != api.OK || m == nil {
		t.Fatalf("no machine: %d", e)
	}
	return m
}

func TestAtFirst(t *testing.T) { // 16.1
	for _, c := range [][2]int{{1, 7}, {3, 12}, {6, 250}} {
		m := machine(t, c[0], c[1])
		p := m.Plan()
		want := map[int]uint64{plan.Clock: 1, plan.Epoch: 3, plan.Free: badge.Head(6, 0)}
		for slot, info := range map[int]uint64{1: 6, 2: 4, 3: 3, 4: 5, 5: 7} {
			want[p.Node(slot, plan.Info)] = info
		}
		want[p.Node(1, plan.Left)], want[p.Node(1, plan.Right)] = 2, 5
		want[p.Node(2, plan.Left)], want[p.Node(2, plan.Right)] = 3, 4
		for slot := 6; slot < c[1]; slot++ {
			want[p.Node(slot, plan.Link)] = uint64(slot + 1)
		}
		words := m.Mem().Words()
		if len(words) != p.Words() || p.Conf().Slots != c[1] {
			t.Fatalf("%d words", len(words))
		}
		for a, w := range words {
			if w != want[a] {
				t.Errorf("word %d is %d, not %d", a, w, want[a])
			}
		}
		if m.Mem().Accesses() != 0 || m.Steps() != 0 || m.Fault() || m.Guard().Held() != 5 || m.Threads() != c[0] {
			t.Error("counts at first")
		}
		for slot := 1; slot <= c[1]; slot++ {
			if m.Guard().Edge(slot) != edge.Make(slot, 0) || m.Guard().Leads(edge.Make(slot, 0)) != (slot <= 5) {
				t.Errorf("slot %d at first", slot)
			}
		}
		for i := range c[0] {
			if m.Thread(i) == nil || m.Thread(i).Depth() != 0 || m.Thread(i) != m.Thread(i) {
				t.Errorf("thread %d", i)
			}
		}
		for _, i := range []int{-1, c[0], math.MaxInt, math.MinInt} {
			if m.Thread(i) != nil {
				t.Errorf("there is no thread %d", i)
			}
		}
	}
	for _, c := range []api.Conf{{}, {Threads: 1, Slots: 6, Stamps: 1}, {Threads: 7, Slots: 7, Stamps: 1}, {Threads: 1, Slots: 7}} {
		if m, e := New(c); m != nil || e != api.ErrArg {
			t.Errorf("%v may not be", c)
		}
	}
	m := machine(t, 1, 7)
	if m.Mem() != m.Mem() || m.Guard() != m.Guard() || m.Plan() != m.Plan() {
		t.Error("told are those of the machine themselves")
	}
}

func TestStep(t *testing.T) { // 16.2, 16.4
	m := machine(t, 2, 9)
	did := 0
	do := func(x *Machine, i int) {
		did++
		if x != m || i != 1 {
			t.Errorf("handed thread %d", i)
		}
		if f := x.Thread(i).Top(); f.PC == 2 {
			x.Thread(i).Back(7)
		} else {
			f.PC++
		}
	}
	if m.Step(1, do) || m.Step(-1, do) || m.Step(2, do) || m.Steps() != 0 || did != 0 {
		t.Error("a step of who has no frame")
	}
	m.Thread(1).Call(5)
	if m.Step(1, nil) || m.Steps() != 0 {
		t.Error("a step of nothing")
	}
	other := *m.Thread(0)
	if !m.Step(1, do) || !m.Step(1, do) || m.Step(1, do) || m.Steps() != 3 || did != 3 {
		t.Errorf("%d steps", m.Steps())
	}
	if m.Thread(1).Ret[0] != 7 || m.Thread(0).Ret != other.Ret || m.Thread(0).Depth() != 0 || m.Fault() {
		t.Error("what a step changes")
	}
}

func TestTwoAccesses(t *testing.T) { // 16.2
	for n := range 4 {
		m := machine(t, 1, 7)
		m.Thread(0).Call(1)
		m.Step(0, func(m *Machine, t int) {
			for range n {
				m.Mem().Load(0)
			}
		})
		if m.Fault() != (n > 1) {
			t.Errorf("%d accesses in a step: %v", n, m.Fault())
		}
		m.Step(0, func(m *Machine, t int) { m.Mem().Load(0) })
		if m.Fault() != (n > 1) {
			t.Error("a machine stays at fault")
		}
	}
	m := machine(t, 1, 7)
	m.Mem().Load(0)
	m.Mem().Load(0)
	if m.Fault() {
		t.Error("accesses without a step are none's fault")
	}
}

func TestOtherFaults(t *testing.T) { // 16.2
	m := machine(t, 1, 7)
	m.Mem().Load(-1)
	if !m.Fault() {
		t.Error("memory is at fault")
	}
	m = machine(t, 1, 7)
	m.Guard().Take(1)
	if !m.Fault() {
		t.Error("the guard noted a slip")
	}
}

func TestNodes(t *testing.T) { // 16.3
	m := machine(t, 1, 7)
	one := edge.Make(1, 0)
	at := m.Plan().Node(1, plan.Left)
	n := 0
	check := func(ok bool, want uint64, what string) {
		t.Helper()
		n++
		if !ok || m.Mem().Words()[at] != want || m.Mem().Accesses() != n || m.Fault() {
			t.Errorf("%s: the word is %d, %d accesses", what, m.Mem().Words()[at], m.Mem().Accesses())
		}
	}
	check(m.Read(one, plan.Left) == 2, 2, "Read")
	check(m.Read(one.Flagged().Tagged(), plan.Left) == 2, 2, "Read by an edge with marks")
	m.Write(one, plan.Left, 9)
	check(true, 9, "Write")
	check(!m.Swap(one, plan.Left, 8, 7), 9, "Swap of another word")
	check(m.Swap(one, plan.Left, 9, 7), 7, "Swap")
	check(m.Mark(one, plan.Left, 8) == 7, 15, "Mark")
	check(!m.Decide(2, one, plan.Left, 15, 3), 15, "Decide at another time")
	check(!m.Decide(1, one, plan.Left, 14, 3), 15, "Decide of another word")
	check(m.Decide(1, one, plan.Left, 15, 3), 3, "Decide")
}

func TestNodesThatNobodyHolds(t *testing.T) { // 16.3, 16.4
	for _, e := range []edge.Edge{0, edge.Make(6, 0), edge.Make(1, 1), edge.Make(4095, 0), edge.Make(8, 0)} {
		for i, do := range []func(m *Machine) bool{
			func(m *Machine) bool { return m.Read(e, plan.Link) == 0 },
			func(m *Machine) bool { m.Write(e, plan.Left, 5); return true },
			func(m *Machine) bool { return !m.Swap(e, plan.Died, 0, 5) },
			func(m *Machine) bool { return m.Mark(e, plan.Link, 8) == 0 },
			func(m *Machine) bool { return !m.Decide(1, e, plan.Died, 0, 5) },
		} {
			m := machine(t, 1, 7)
			was := m.Mem().Words()
			if !do(m) || !m.Fault() || m.Mem().Accesses() != 0 || !slices.Equal(m.Mem().Words(), was) {
				t.Errorf("access %d by %x", i, uint64(e))
			}
		}
	}
	m := machine(t, 1, 7)
	if m.Read(1, 7) != 0 || !m.Fault() {
		t.Error("there is no field 7")
	}
}

func TestClone(t *testing.T) { // 16.3
	m := machine(t, 2, 9)
	m.Thread(0).Call(3)
	m.Step(0, func(m *Machine, t int) { m.Mem().Store(0, 4) })
	c := m.Clone()
	if c.Steps() != 1 || c.Fault() || c.Mem().Load(0) != 4 || c.Threads() != 2 || c.Thread(0).Depth() != 1 || c.Guard().Held() != 5 || c.Plan().Conf() != m.Plan().Conf() {
		t.Error("a clone is as what it was made of")
	}
	c.Mem().Store(0, 9)
	c.Thread(0).Back(1)
	c.Guard().Take(6)
	c.Read(0, 0)
	if m.Mem().Load(0) != 4 || m.Thread(0).Depth() != 1 || m.Guard().Held() != 5 || m.Fault() || !c.Fault() {
		t.Error("a clone is by itself")
	}
	if !c.Clone().Fault() {
		t.Error("a clone of what is at fault")
	}
}

func TestNilMachine(t *testing.T) { // 16.3
	var m *Machine
	m.Write(1, 1, 1)
	if m.Plan() != nil || m.Mem() != nil || m.Guard() != nil || m.Thread(0) != nil || m.Threads() != 0 || m.Step(0, func(*Machine, int) {}) || m.Steps() != 0 || m.Fault() {
		t.Error("a nil machine has something")
	}
	if m.Read(1, 1) != 0 || m.Swap(1, 1, 0, 1) || m.Mark(1, 1, 1) != 0 || m.Decide(0, 1, 1, 0, 1) || m.Clone() != nil {
		t.Error("a nil machine does something")
	}
}
