package order

import (
	"math"
	"testing"
)

// rising is keys that may be, each greater than the one ahead of it.
var rising = []Key{
	{0, math.MinInt64}, {0, -7}, {0, -1}, {0, 0}, {0, 1}, {0, 5}, {0, math.MaxInt64},
	{1, 0}, {2, 0}, {3, 0},
}

func TestOrderOfKeys(t *testing.T) { // 2.1, 2.3
	for i, a := range rising {
		for j, b := range rising {
			want := 0
			if i < j {
				want = -1
			} else if i > j {
				want = 1
			}
			if Cmp(a, b) != want || Less(a, b) != (i < j) {
				t.Errorf("Cmp(%v, %v) = %d", a, b, Cmp(a, b))
			}
			if Max(a, b) != rising[max(i, j)] {
				t.Errorf("Max(%v, %v) = %v", a, b, Max(a, b))
			}
			side := 1
			if i < j {
				side = 0
			}
			if Side(a, b) != side {
				t.Errorf("Side(%v, %v) = %d", a, b, Side(a, b))
			}
			if left := Side(a, b) == 0; left != (Side(b, a) != 0 && a != b) {
				t.Errorf("%v and %v lie on sides that don't fit", a, b)
			}
		}
	}
}

func TestKeysThatMayBe(t *testing.T) { // 2.1
	for _, k := range rising {
		if !Right(k) {
			t.Errorf("%v may be", k)
		}
	}
	for _, k := range []Key{{1, 1}, {2, -1}, {3, math.MinInt64}, {4, 0}, {-1, 0}, {math.MinInt, 5}, {math.MaxInt, 0}} {
		if Right(k) {
			t.Errorf("%v may not be", k)
		}
	}
	if User(5) != (Key{0, 5}) || User(math.MinInt64) != (Key{0, math.MinInt64}) {
		t.Error("User")
	}
	for class, want := range map[int]int{1: 1, 2: 2, 3: 3, 0: 3, 4: 3, -1: 3, math.MaxInt: 3, math.MinInt: 3} {
		if Top(class) != (Key{want, 0}) {
			t.Errorf("Top(%d) = %v", class, Top(class))
		}
	}
}

func TestIn(t *testing.T) { // 2.1
	for _, c := range []struct {
		k      Key
		lo, hi int64
		want   bool
	}{
		{User(5), 5, 5, true}, {User(5), 0, 9, true}, {User(5), 6, 9, false}, {User(5), 0, 4, false}, {User(5), 9, 0, false},
		{User(math.MinInt64), math.MinInt64, math.MaxInt64, true}, {User(math.MaxInt64), math.MinInt64, math.MaxInt64, true},
		{Top(1), 0, 9, false}, {Top(3), math.MinInt64, math.MaxInt64, false},
	} {
		if In(c.k, c.lo, c.hi) != c.want {
			t.Errorf("In(%v, %d, %d)", c.k, c.lo, c.hi)
		}
	}
}

func TestInfo(t *testing.T) { // 2.2
	for class := 0; class <= 3; class++ {
		if Info(true, class) != uint64(2*class+1) || Info(false, class) != uint64(2*class) {
			t.Errorf("Info of Class %d", class)
		}
	}
	for _, class := range []int{-1, 4, 8, math.MinInt, math.MaxInt} {
		if Info(true, class) != 0 || Info(false, class) != 0 {
			t.Errorf("there is no Class %d", class)
		}
	}
	for w := uint64(0); w < 8; w++ {
		leaf, class, ok := Read(w)
		if leaf != (w&1 == 1) || class != int(w>>1) || !ok {
			t.Errorf("Read(%d) = %v %d %v", w, leaf, class, ok)
		}
	}
	for _, w := range []uint64{8, 9, 15, 1 << 63, 1<<63 | 5, math.MaxUint64} {
		if leaf, class, ok := Read(w); leaf || class != 0 || ok {
			t.Errorf("Read(%x) = %v %d %v", w, leaf, class, ok)
		}
	}
}
