package json

import (
	"strings"

	"spillway/api"
	"spillway/num"
)

// isNumber tells whether a text is a number as the grammar has them, without a blank.
func isNumber(s string) bool {
	v, err, _ := Parse(s)
	return err == api.OK && v.Kind == api.Number && v.Text == s
}

// number is one in parts: 1 or -1, times its digits, times a power of 10.
type number struct {
	sign   int
	digits string
	power  int
}

// split is a right number in its parts.
func split(s string) number {
	n := number{sign: 1}
	if s[0] == '-' {
		n.sign, s = -1, s[1:]
	}
	if i := strings.IndexAny(s, "eE"); i >= 0 {
		s, n.power = s[:i], power(s[i+1:])
	}
	whole, fraction, _ := strings.Cut(s, ".")
	n.power = num.Plus(n.power, -len(fraction))
	n.digits = strings.TrimLeft(whole+fraction, "0")
	return n.trimmed()
}

// trimmed is the same number, its digits without noughts behind.
func (n number) trimmed() number {
	digits := strings.TrimRight(n.digits, "0")
	return number{n.sign, digits, num.Plus(n.power, len(n.digits)-len(digits))}
}

// power is what stands behind an e, kept within int64: what is beyond that makes no number whole that int64 holds.
func power(s string) int {
	n, sign := 0, 1
	for _, c := range []byte(s) {
		switch c {
		case '-':
			sign = -1
		case '+':
		default:
			n = num.Plus(num.Times(n, 10), int(c-'0'))
		}
	}
	return num.Times(n, sign)
}

// whole is it as a whole number; false, if it is none, or one that int64 cannot hold.
func (n number) whole() (int, bool) {
	if n.digits == "" {
		return 0, true
	}
	if n.power < 0 {
		return 0, false
	}
	sum := 0
	for _, c := range []byte(n.digits) {
		var ok bool
		if sum, ok = behind(sum, n.sign*int(c-'0')); !ok {
			return 0, false
		}
	}
	for range n.power {
		var ok bool
		if sum, ok = behind(sum, 0); !ok {
			return 0, false
		}
	}
	return sum, true
}

// behind is a number with one digit more; it has the number's sign.
func behind(n, digit int) (int, bool) {
	n, err := num.Mul(n, 10)
	if err != api.OK {
		return 0, false
	}
	n, err = num.Add(n, digit)
	return n, err == api.OK
}
