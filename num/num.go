// Package num is whole numbers: checked, kept within, wide. See ../../shared/doc/01-num.md.
package num

import "spillway/api"

// Add, Sub, Mul are exact, or have ErrOver.
func Add(a, b int) (int, api.Errno) { return widen(a).plus(widen(b)).narrow() }
func Sub(a, b int) (int, api.Errno) { return widen(a).plus(widen(b).negated()).narrow() }
func Mul(a, b int) (int, api.Errno) { return product(a, b).narrow() }

// Within is a number, kept from lo to hi.
func Within(n, lo, hi int) int {
	switch {
	case n < lo:
		return lo
	case n > hi:
		return hi
	default:
		return n
	}
}

// Plus is the sum of all, from the left, at each step kept within int64.
func Plus(l ...int) int {
	sum := 0
	for _, n := range l {
		sum = widen(sum).plus(widen(n)).kept()
	}
	return sum
}

// Times is the product of two, kept within int64.
func Times(a, b int) int { return product(a, b).kept() }

// MulDiv is a times b by c, rounded down, or (up) up, the product in 128 bits.
func MulDiv(a, b, c int, up bool) (int, api.Errno) {
	return fraction{wide: product(a, b), by: c}.rounded(up)
}

// Div is a by b, rounded down, or up.
func Div(a, b int, up bool) (int, api.Errno) {
	return fraction{wide: widen(a), by: b}.rounded(up)
}

// Share is a of b in thousandths, rounded down; 0 of 0.
func Share(a, b int) (int, api.Errno) {
	if a < 0 || a > b {
		return 0, api.ErrRange
	}
	if b == 0 {
		return 0, api.OK
	}
	return MulDiv(1000, a, b, false)
}

// Mean is the mean of numbers, rounded down; the sum is exact, however great.
func Mean(l ...int) (int, api.Errno) {
	if len(l) == 0 {
		return 0, api.ErrNone
	}
	var sum wide
	for _, n := range l {
		sum = sum.plus(widen(n))
	}
	return fraction{wide: sum, by: len(l)}.rounded(false)
}
