package badge

import (
	"math"
	"testing"
)

func TestHeads(t *testing.T) { // 4.1
	for _, slot := range []int{0, 1, 5, 4095} {
		for _, changes := range []uint64{0, 1, 1<<52 - 1} {
			h := Head(slot, changes)
			if h != uint64(slot)|changes<<12 || Slot(h) != slot {
				t.Errorf("Head(%d, %d) = %x", slot, changes, h)
			}
			for _, next := range []int{0, 7, 4095} {
				if Changed(h, next) != Head(next, changes+1) {
					t.Errorf("Changed(%x, %d) = %x", h, next, Changed(h, next))
				}
			}
		}
	}
	for _, slot := range []int{-1, 4096, math.MaxInt, math.MinInt} {
		if Head(slot, 3) != Head(0, 3) || Changed(Head(9, 3), slot) != Head(0, 4) {
			t.Errorf("there is no slot %d", slot)
		}
	}
	if Head(5, 1<<52|2) != Head(5, 2) || Changed(math.MaxUint64, 6) != 6 || Changed(0, 5) != 4101 {
		t.Error("a head was changed modulo 2^52 times")
	}
}

func TestHeadsThatWereChanged(t *testing.T) { // 4.3
	seen := map[uint64]bool{}
	h := Head(3, 1<<52-500)
	for i := range 1000 {
		if seen[h] {
			t.Fatal("a head came back")
		}
		seen[h] = true
		h = Changed(h, i%2)
	}
}

func TestAnnouncements(t *testing.T) { // 4.2
	for _, e := range []uint64{0, 1, 3, 1<<63 - 1} {
		if Active(e) != e<<1|1 {
			t.Errorf("Active(%d) = %d", e, Active(e))
		}
		if got, ok := Epoch(Active(e)); got != e || !ok {
			t.Errorf("the epoch of %d is %d", e, got)
		}
		if Lags(Active(e), e) || !Lags(Active(e), e+1) || !Lags(Active(e), e-1) {
			t.Errorf("who is active in %d lags", e)
		}
	}
	for _, w := range []uint64{0, 2, 6, math.MaxUint64 - 1} {
		if e, ok := Epoch(w); e != 0 || ok || Lags(w, 0) || Lags(w, 3) || Lags(w, w>>1) {
			t.Errorf("%d is idle", w)
		}
	}
	if Active(1<<63|3) != 7 || Active(3) != 7 {
		t.Error("an announced epoch has 63 bits")
	}
}

func TestStamps(t *testing.T) { // 4.2, 4.3
	for s := uint64(0); s < 20; s++ {
		if Bag(s) != int(s)%3 {
			t.Errorf("Bag(%d) = %d", s, Bag(s))
		}
		for e := uint64(0); e < 30; e++ {
			if Old(s, e) != (int(e)-int(s) >= 3) {
				t.Errorf("Old(%d, %d)", s, e)
			}
			if s < e && Bag(s) == Bag(e) && !Old(s, e) {
				t.Errorf("%d and %d are in one bag", s, e)
			}
		}
	}
	const most = uint64(math.MaxUint64)
	if !Old(most-3, most) || Old(most-2, most) || Old(most, most) || Old(most, 1) || Old(most-2, 0) || !Old(0, most) {
		t.Error("stamps near the greatest number")
	}
	if Bag(most) != int(most%3) || Age != 3 {
		t.Error("the bag of the greatest stamp")
	}
}
