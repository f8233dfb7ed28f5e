package edge

import (
	"math"
	"testing"
)

const (
	flag = Edge(1) << 62
	tag  = Edge(1) << 63
)

func TestParts(t *testing.T) { // 3.1
	for _, slot := range []int{0, 1, 3, 250, 4095} {
		for _, gen := range []uint64{0, 1, 77, 1<<50 - 1} {
			e := Make(slot, gen)
			if e != Edge(uint64(slot)|gen<<12) {
				t.Errorf("Make(%d, %d) = %x", slot, gen, uint64(e))
			}
			for _, marks := range []Edge{0, flag, tag, flag | tag} {
				m := e | marks
				if m.Slot() != slot || m.Gen() != gen || m.Flag() != (marks&flag != 0) || m.Tag() != (marks&tag != 0) {
					t.Errorf("the parts of %x", uint64(m))
				}
				if m.Plain() != (marks == 0) || m.Node() != e {
					t.Errorf("the node of %x is %x", uint64(m), uint64(m.Node()))
				}
			}
		}
	}
	if Make(3, 1) != 4099 {
		t.Error("the example")
	}
}

func TestMakeOfNone(t *testing.T) { // 3.1
	for _, slot := range []int{-1, 4096, 4097, math.MaxInt, math.MinInt} {
		if Make(slot, 5) != Make(0, 5) || Make(slot, 0) != 0 {
			t.Errorf("there is no slot %d", slot)
		}
	}
	if Make(7, 1<<50|3) != Make(7, 3) || Make(7, math.MaxUint64) != Make(7, 1<<50-1) {
		t.Error("a generation has 50 bits")
	}
	if !Make(4095, math.MaxUint64).Plain() {
		t.Error("what is made is plain")
	}
}

func TestMarks(t *testing.T) { // 3.2, 3.3
	if Tag != 1<<63 || Make(3, 1).Flagged() != 4099+1<<62 {
		t.Error("the marks as words")
	}
	for _, e := range []Edge{Make(0, 0), Make(1, 0), Make(4095, 1<<50-1), Make(9, 4)} {
		for _, marks := range []Edge{0, flag, tag, flag | tag} {
			m := e | marks
			if m.Flagged() != m|flag || m.Tagged() != m|tag || m.Keep() != m&^tag {
				t.Errorf("marks of %x", uint64(m))
			}
			for _, o := range []Edge{m, m.Flagged(), m.Tagged(), m.Keep(), m.Node()} {
				if !m.To(o) || !o.To(m) || o.Node() != e {
					t.Errorf("marks change the node of %x", uint64(m))
				}
			}
			if m.To(e+1) || m.To(e^1<<12) || m.To(Make(8, 8)) {
				t.Errorf("%x leads to other nodes", uint64(m))
			}
		}
	}
}
