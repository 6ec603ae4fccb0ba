package breaker

import (
	"slices"

	"spillway/api"
)

// standing is what a breaker is, and until when it is open; a closed one has no until.
type standing struct {
	state State
	until int
}

// lets tells whether a call passes.
func (s standing) lets(at int) bool {
	return s.state == Closed || s.state == Open && at >= s.until
}

// refuses is the error of a call at a time, if it has one; others are what must be a time too.
func (b *Breaker) refuses(at int, others ...int) api.Errno {
	switch {
	case b == nil:
		return api.ErrNil
	case isNoTime(at) || slices.ContainsFunc(others, isNoTime):
		return api.ErrRange
	case at < b.last:
		return api.ErrBack
	}
	return api.OK
}

func isNoTime(n int) bool { return n < 0 || n > api.MaxTime }

// tripIf trips, if the window's counts at a time ask for it.
func (b *Breaker) tripIf(at int) {
	// The error is none: no time that the window noted is later than the breaker's.
	if c, _ := b.ends.Sum(at); b.rule.isBroken(c) {
		b.trip(at)
	}
}

// trip opens it; what its window noted stays. The sum is far below 2^62, as MaxTime and the greatest Recover are.
func (b *Breaker) trip(at int) {
	b.standing = standing{state: Open, until: at + b.rule.Recover}
	b.trips++
}

// close begins anew: its window has noted nothing.
func (b *Breaker) close() {
	b.standing = standing{state: Closed}
	b.ends = newEnds(b.rule.Window)
}
