package pairs

import (
	"math"
	"slices"
	"testing"

	"deadwood/api"
)

// row is pairs of these keys and values, in turn.
func row(n ...int64) []api.Pair {
	var l []api.Pair
	for i := 0; i+1 < len(n); i += 2 {
		l = append(l, api.Pair{Key: n[i], Val: n[i+1]})
	}
	return l
}

func TestRises(t *testing.T) { // 8.1
	for _, l := range [][]api.Pair{nil, {}, row(5, 1), row(3, 2, 9, 1), row(math.MinInt64, 0, 0, 0, math.MaxInt64, 0)} {
		if !Rises(l) {
			t.Errorf("%v rises", l)
		}
	}
	for _, l := range [][]api.Pair{row(5, 1, 5, 2), row(9, 1, 3, 2), row(1, 0, 2, 0, 2, 0), row(1, 0, 3, 0, 2, 0)} {
		if Rises(l) {
			t.Errorf("%v doesn't rise", l)
		}
	}
}

func TestPutAndDrop(t *testing.T) { // 8.1, 8.3
	l := row(3, 2, 9, 1)
	for _, c := range []struct{ key, at int64 }{{1, 0}, {5, 1}, {12, 2}, {math.MinInt64, 0}, {math.MaxInt64, 2}} {
		p := api.Pair{Key: c.key, Val: 7}
		got, ok := Put(l, p)
		if want := slices.Insert(slices.Clone(l), int(c.at), p); !ok || !slices.Equal(got, want) || !Rises(got) {
			t.Errorf("Put of %d: %v", c.key, got)
		}
		if at, ok := Find(got, c.key); int64(at) != c.at || !ok {
			t.Errorf("what was put is not found: %d", c.key)
		}
		back, ok := Drop(got, c.key)
		if !ok || !Same(back, l) {
			t.Errorf("Drop of %d: %v", c.key, back)
		}
	}
	if got, ok := Put(l, api.Pair{Key: 9, Val: 8}); ok || !Same(got, l) {
		t.Error("a key is put twice")
	}
	if got, ok := Drop(l, 4); ok || !Same(got, l) {
		t.Error("a key is dropped that isn't there")
	}
	if got, ok := Drop(nil, 4); ok || len(got) != 0 {
		t.Error("Drop of nothing")
	}
	if got, ok := Put(nil, api.Pair{Key: 4, Val: 1}); !ok || !Same(got, row(4, 1)) {
		t.Error("Put into nothing")
	}
	if got, ok := Drop(row(4, 1), 4); !ok || len(got) != 0 {
		t.Error("Drop of the last one")
	}
}

func TestNothingIsShared(t *testing.T) { // the rule of memory
	l := make([]api.Pair, 0, 9)
	l = append(l, row(1, 1, 3, 3, 5, 5)...)
	was := slices.Clone(l)
	put, _ := Put(l, api.Pair{Key: 9, Val: 9})
	same, _ := Put(l, api.Pair{Key: 3, Val: 9})
	drop, _ := Drop(l, 5)
	cut := Cut(l, 1, 9, 9)
	for _, out := range [][]api.Pair{put, same, drop, cut} {
		for i := range out {
			out[i] = api.Pair{Key: -1, Val: -1}
		}
	}
	if !slices.Equal(l, was) {
		t.Error("what was handed in is changed")
	}
}

func TestFind(t *testing.T) { // 8.2
	l := row(3, 2, 9, 1)
	for key, want := range map[int64]int{2: 0, 4: 1, 10: 2, math.MinInt64: 0, math.MaxInt64: 2} {
		if at, ok := Find(l, key); at != want || ok {
			t.Errorf("Find of %d: %d %v", key, at, ok)
		}
	}
	for i, p := range l {
		if at, ok := Find(l, p.Key); at != i || !ok {
			t.Errorf("Find of %d: %d %v", p.Key, at, ok)
		}
	}
	if at, ok := Find(nil, 5); at != 0 || ok {
		t.Error("Find in nothing")
	}
}

func TestCut(t *testing.T) { // 8.2
	l := row(1, 1, 3, 3, 5, 5, 7, 7)
	for _, c := range []struct {
		lo, hi int64
		limit  int
		want   []api.Pair
	}{
		{1, 7, 9, l}, {2, 6, 9, row(3, 3, 5, 5)}, {3, 5, 9, row(3, 3, 5, 5)}, {0, 9, 2, row(1, 1, 3, 3)}, {3, 3, 1, row(3, 3)},
		{0, 9, 0, nil}, {0, 9, -1, nil}, {0, 9, math.MinInt, nil}, {6, 2, 9, nil}, {4, 4, 9, nil}, {8, 9, 9, nil}, {-5, 0, 9, nil},
		{math.MinInt64, math.MaxInt64, math.MaxInt, l}, {0, 9, 4, l}, {0, 9, 3, l[:3]},
	} {
		if got := Cut(l, c.lo, c.hi, c.limit); !slices.Equal(got, c.want) {
			t.Errorf("Cut(%d, %d, %d) = %v", c.lo, c.hi, c.limit, got)
		}
	}
	if len(Cut(nil, 0, 9, 9)) != 0 {
		t.Error("Cut of nothing")
	}
}

func TestFloorAndCeiling(t *testing.T) { // 8.2, 8.3
	l := row(3, 2, 9, 1)
	for key := int64(0); key <= 12; key++ {
		floor, isFloor := api.Pair{}, false
		ceiling, isCeiling := api.Pair{}, false
		for i := range l {
			if l[i].Key <= key {
				floor, isFloor = l[i], true
			}
			if j := len(l) - 1 - i; l[j].Key >= key {
				ceiling, isCeiling = l[j], true
			}
		}
		if got, ok := Floor(l, key); got != floor || ok != isFloor {
			t.Errorf("Floor of %d: %v %v", key, got, ok)
		}
		if got, ok := Ceiling(l, key); got != ceiling || ok != isCeiling {
			t.Errorf("Ceiling of %d: %v %v", key, got, ok)
		}
	}
	if p, ok := Floor(nil, 5); p != (api.Pair{}) || ok {
		t.Error("the floor of nothing")
	}
	if p, ok := Ceiling(nil, 5); p != (api.Pair{}) || ok {
		t.Error("the ceiling of nothing")
	}
}

func TestSame(t *testing.T) { // 8.1
	if !Same(nil, []api.Pair{}) || !Same(row(1, 2), row(1, 2)) || Same(row(1, 2), row(1, 3)) || Same(row(1, 2), row(2, 2)) || Same(row(1, 2), nil) || Same(row(1, 2), row(1, 2, 3, 4)) {
		t.Error("Same")
	}
}

func TestListsThatDontRise(t *testing.T) { // P1
	for _, l := range [][]api.Pair{row(9, 1, 3, 2, 5, 5), row(1, 1, 1, 1), row(5, 1, 4, 1, 3, 1, 2, 1)} {
		for key := int64(-1); key <= 10; key++ {
			Put(l, api.Pair{Key: key})
			Drop(l, key)
			Find(l, key)
			Cut(l, key, 9, 2)
			Floor(l, key)
			Ceiling(l, key)
		}
	}
}
