// Package word is layer 1: fields of words, and signed numbers as words.
package word

// top is the bit by which ranks and bits of numbers differ.
const top = uint64(1) << 63

func may(at, width int) bool {
	return at >= 0 && at <= 63 && width >= 1 && width <= 64 && at+width <= 64
}

// Mask is a field's bits.
func Mask(at, width int) uint64 {
	if !may(at, width) {
		return 0
	}
	return (uint64(1)<<uint(width) - 1) << uint(at)
}

// Field is a field's number.
func Field(w uint64, at, width int) uint64 {
	if !may(at, width) {
		return 0
	}
	return w & Mask(at, width) >> uint(at)
}

// With is a word with a field changed.
func With(w uint64, at, width int, n uint64) uint64 {
	if !may(at, width) {
		return w
	}
	m := Mask(at, width)
	return w&^m | n<<uint(at)&m
}

// Bit is a bit.
func Bit(w uint64, at int) bool {
	return Field(w, at, 1) == 1
}

// Turned is a word with a bit turned on, or off.
func Turned(w uint64, at int, on bool) uint64 {
	if on {
		return With(w, at, 1, 1)
	}
	return With(w, at, 1, 0)
}

// Bits is a number's bits.
func Bits(n int64) uint64 {
	return uint64(n)
}

// Signed is the number of bits.
func Signed(w uint64) int64 {
	return int64(w)
}

// Rank is how many numbers are less.
func Rank(n int64) uint64 {
	return Bits(n) ^ top
}

// Of is the number of a rank.
func Of(rank uint64) int64 {
	return Signed(rank ^ top)
}
