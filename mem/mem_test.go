package mem

import (
	"math"
	"slices"
	"testing"
)

func TestNew(t *testing.T) { // 6.1
	for _, n := range []int{1, 2, 4096} {
		m := New(n)
		if m == nil || !slices.Equal(m.Words(), make([]uint64, n)) || m.Accesses() != 0 || m.Fault() {
			t.Errorf("a memory of %d words", n)
		}
		if Of(make([]uint64, n)) == nil {
			t.Errorf("a memory of these %d words", n)
		}
	}
	for _, n := range []int{0, -1, 4097, math.MaxInt, math.MinInt} {
		if New(n) != nil {
			t.Errorf("a memory has not %d words", n)
		}
	}
	if Of(nil) != nil || Of([]uint64{}) != nil || Of(make([]uint64, 4097)) != nil {
		t.Error("a memory of too few words, or too many")
	}
	l := []uint64{5, 6}
	m := Of(l)
	m.Store(0, 9)
	l[1] = 7
	if m.Load(1) != 6 || l[0] != 5 {
		t.Error("the words that were handed in are kept")
	}
}

func TestAccesses(t *testing.T) { // 6.1, 6.2, 6.3
	m := Of([]uint64{1, 2, 3})
	want := []uint64{1, 2, 3}
	n := 0
	check := func(ok bool, what string) {
		t.Helper()
		n++
		if !ok || m.Accesses() != n || m.Fault() || !slices.Equal(m.Words(), want) {
			t.Fatalf("%s: %v, not %v; %d accesses", what, m.Words(), want, m.Accesses())
		}
	}
	check(m.Load(2) == 3, "Load")
	m.Store(1, 7)
	want[1] = 7
	check(true, "Store")
	check(!m.Cas(1, 2, 8), "Cas of another word")
	ok := m.Cas(1, 7, 8)
	want[1] = 8
	check(ok, "Cas")
	was := m.Or(0, 6)
	want[0] = 7
	check(was == 1, "Or")
	was = m.Add(0, math.MaxUint64)
	want[0] = 6
	check(was == 7, "Add, wrapped round")
	check(!m.Dcss(0, 5, 1, 8, 9), "Dcss, asked in vain")
	check(!m.Dcss(0, 6, 1, 7, 9), "Dcss of another word")
	ok = m.Dcss(0, 6, 1, 8, 9)
	want[1] = 9
	check(ok, "Dcss")
	ok = m.Dcss(2, 3, 2, 3, 4)
	want[2] = 4
	check(ok, "Dcss of one word alone")
}

func TestOutOfPlace(t *testing.T) { // 6.1, 6.2
	for _, a := range []int{-1, 2, math.MaxInt, math.MinInt} {
		for i, do := range []func(m *Memory) bool{
			func(m *Memory) bool { return m.Load(a) == 0 },
			func(m *Memory) bool { m.Store(a, 5); return true },
			func(m *Memory) bool { return !m.Cas(a, 0, 5) },
			func(m *Memory) bool { return m.Or(a, 5) == 0 },
			func(m *Memory) bool { return m.Add(a, 5) == 0 },
			func(m *Memory) bool { return !m.Dcss(a, 0, 0, 1, 5) },
			func(m *Memory) bool { return !m.Dcss(0, 1, a, 0, 5) },
		} {
			m := Of([]uint64{1, 2})
			if !do(m) || !m.Fault() || m.Accesses() != 1 || !slices.Equal(m.Words(), []uint64{1, 2}) {
				t.Errorf("access %d at %d", i, a)
			}
			if m.Load(1) != 2 || !m.Fault() || m.Accesses() != 2 {
				t.Errorf("a memory stays at fault, and goes on")
			}
		}
	}
}

func TestCloneAndCopies(t *testing.T) { // 6.2
	m := Of([]uint64{1, 2})
	m.Load(7)
	c := m.Clone()
	if c.Accesses() != 1 || !c.Fault() || !slices.Equal(c.Words(), m.Words()) {
		t.Error("a clone is as what it was made of")
	}
	c.Store(0, 9)
	m.Words()[1] = 9
	if m.Load(0) != 1 || m.Load(1) != 2 || c.Accesses() != 2 {
		t.Error("a clone is by itself")
	}
}

func TestNilMemory(t *testing.T) { // 6.2
	var m *Memory
	m.Store(0, 1)
	if m.Load(0) != 0 || m.Cas(0, 0, 1) || m.Or(0, 1) != 0 || m.Add(0, 1) != 0 || m.Dcss(0, 0, 0, 0, 1) || m.Accesses() != 0 || m.Fault() || len(m.Words()) != 0 || m.Clone() != nil {
		t.Error("a nil memory has something")
	}
}
