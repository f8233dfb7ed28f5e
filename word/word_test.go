package word

import (
	"math"
	"testing"
)

var samples = []uint64{0, 1, 2, 0x0123456789abcdef, 0xfedcba9876543210, 1 << 63, 1<<63 - 1, math.MaxUint64}

// slowMask builds a field's bits one by one.
func slowMask(at, width int) uint64 {
	m := uint64(0)
	for i := at; i < at+width; i++ {
		m |= 1 << uint(i)
	}
	return m
}

func TestFieldsOfAllPlaces(t *testing.T) { // 1.1, 1.3
	for at := 0; at <= 63; at++ {
		for width := 1; at+width <= 64; width++ {
			m := slowMask(at, width)
			if Mask(at, width) != m {
				t.Fatalf("Mask(%d, %d) = %x", at, width, Mask(at, width))
			}
			for _, w := range samples {
				if got, want := Field(w, at, width), (w&m)>>uint(at); got != want {
					t.Fatalf("Field(%x, %d, %d) = %x, not %x", w, at, width, got, want)
				}
				for _, n := range samples {
					got := With(w, at, width, n)
					if got&^m != w&^m {
						t.Fatalf("With(%x, %d, %d, %x) changed other bits", w, at, width, n)
					}
					if Field(got, at, width) != n&(m>>uint(at)) {
						t.Fatalf("With(%x, %d, %d, %x) = %x", w, at, width, n, got)
					}
				}
			}
		}
	}
}

func TestFieldsThatMayNotBe(t *testing.T) { // 1.1
	for _, c := range [][2]int{{-1, 1}, {0, 0}, {0, -1}, {0, 65}, {64, 1}, {63, 2}, {1, 64}, {60, 5}, {math.MaxInt, math.MaxInt}, {math.MinInt, 1}, {0, math.MinInt}, {1, math.MaxInt}, {-1, 2}} {
		at, width := c[0], c[1]
		if Mask(at, width) != 0 || Field(math.MaxUint64, at, width) != 0 || With(77, at, width, 5) != 77 {
			t.Errorf("a field at %d of width %d may not be", at, width)
		}
	}
}

func TestBits(t *testing.T) { // 1.1
	for at := 0; at <= 63; at++ {
		one := uint64(1) << uint(at)
		for _, w := range samples {
			if Bit(w, at) != (w&one != 0) {
				t.Fatalf("Bit(%x, %d)", w, at)
			}
			if Turned(w, at, true) != w|one || Turned(w, at, false) != w&^one {
				t.Fatalf("Turned(%x, %d)", w, at)
			}
		}
	}
	for _, at := range []int{-1, 64, math.MaxInt, math.MinInt} {
		if Bit(math.MaxUint64, at) || Turned(7, at, true) != 7 || Turned(7, at, false) != 7 {
			t.Errorf("there is no place %d", at)
		}
	}
}

func TestNumbers(t *testing.T) { // 1.2, 1.3
	rising := []int64{math.MinInt64, math.MinInt64 + 1, -1 << 32, -7, -1, 0, 1, 7, 1 << 32, math.MaxInt64 - 1, math.MaxInt64}
	for i, n := range rising {
		if Of(Rank(n)) != n || Signed(Bits(n)) != n {
			t.Errorf("%d is not got back", n)
		}
		if i > 0 && Rank(rising[i-1]) >= Rank(n) {
			t.Errorf("the rank of %d does not rise", n)
		}
	}
	for _, w := range samples {
		if Rank(Of(w)) != w || Bits(Signed(w)) != w {
			t.Errorf("%x is not got back", w)
		}
	}
	if Rank(math.MinInt64) != 0 || Rank(0) != 1<<63 || Rank(-1) != 1<<63-1 || Rank(math.MaxInt64) != math.MaxUint64 {
		t.Error("ranks")
	}
	if Bits(-1) != math.MaxUint64 || Bits(5) != 5 || Bits(math.MinInt64) != 1<<63 || Signed(math.MaxUint64-6) != -7 {
		t.Error("bits")
	}
	if With(0, 4, 8, 511) != 4080 {
		t.Error("the example")
	}
}
