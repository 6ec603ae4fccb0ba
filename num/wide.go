package num

import (
	"math"
	"math/bits"

	"spillway/api"
)

// wide is a whole number of 128 bits, in two's complement, as two words.
type wide struct {
	high, low uint64
}

func widen(n int) wide {
	return wide{high: uint64(n >> 63), low: uint64(n)}
}

func product(a, b int) wide {
	high, low := bits.Mul64(uint64(a), uint64(b))
	// Mul64 takes a number below 0 for one that is 2^64 greater.
	if a < 0 {
		high -= uint64(b)
	}
	if b < 0 {
		high -= uint64(a)
	}
	return wide{high: high, low: low}
}

func (w wide) negative() bool {
	return int64(w.high) < 0
}

func (w wide) plus(v wide) wide {
	low, carry := bits.Add64(w.low, v.low, 0)
	high, _ := bits.Add64(w.high, v.high, carry)
	return wide{high: high, low: low}
}

func (w wide) negated() wide {
	return wide{high: ^w.high, low: ^w.low}.plus(wide{low: 1})
}

// size is the number without its sign.
func (w wide) size() wide {
	if w.negative() {
		return w.negated()
	}
	return w
}

// narrow is the number, or ErrOver, if int64 cannot hold it.
func (w wide) narrow() (int, api.Errno) {
	n := int(w.low)
	if widen(n) != w {
		return 0, api.ErrOver
	}
	return n, api.OK
}

// kept is the number, kept from the least to the greatest int64.
func (w wide) kept() int {
	n, err := w.narrow()
	switch {
	case err == api.OK:
		return n
	case w.negative():
		return math.MinInt64
	default:
		return math.MaxInt64
	}
}

// fraction is a wide number that is to be divided.
type fraction struct {
	wide
	by int
}

// rounded is the next whole number that is not above the fraction, or (up) not below it.
func (f fraction) rounded(up bool) (int, api.Errno) {
	if f.by == 0 {
		return 0, api.ErrZero
	}
	below0 := f.negative() != (f.by < 0)
	whole, exact := f.quotient()
	// Without its sign a number below 0 grows when it is rounded down.
	if !exact && up != below0 {
		whole = whole.plus(wide{low: 1})
	}
	if below0 {
		whole = whole.negated()
	}
	return whole.narrow()
}

// quotient is the whole part of the fraction without its sign, and whether that is all of it.
func (f fraction) quotient() (wide, bool) {
	top, by := f.size(), widen(f.by).size().low
	low, rest := bits.Div64(top.high%by, top.low, by)
	return wide{high: top.high / by, low: low}, rest == 0
}
