package breaker

import (
	"spillway/api"
	"spillway/num"
	"spillway/window"
)

const wholeRatio = 1000 // thousandths

// rule is what a breaker goes by; it is right.
type rule struct{ api.Break }

// isBad tells of an entry's end whether it is bad.
func (r rule) isBad(rt int, failed bool) bool {
	if r.Grade == api.SlowRatio {
		return rt > r.Slow
	}
	return failed
}

// isBroken tells whether counts of ends, and of bad ones as Errors, are such that a breaker trips.
func (r rule) isBroken(c api.Counts) bool {
	switch {
	case c.Done < r.Least:
		return false
	case r.Grade == api.ErrorCount:
		return c.Errors > r.Count
	case r.Count == wholeRatio: // no ratio is above the whole
		return c.Errors == c.Done
	}
	return num.Times(wholeRatio, c.Errors) > num.Times(r.Count, c.Done)
}

// ends are the entries that ended while a breaker was closed, in a window.
type ends struct{ *window.Window }

func newEnds(width int) ends {
	// The error is none: a right rule's width is one of windows, and 1 divides it.
	w, _ := window.New(width, 1)
	return ends{w}
}

// note lets the window note one end more. It is not refused: the counts are right, and no time that the window noted is later than the breaker's.
func (e ends) note(at int, bad bool) {
	c := api.Counts{Done: 1}
	if bad {
		c.Errors = 1
	}
	e.Add(at, c)
}
