package pacing

// last is the last call that went, if one did: when.
type last struct {
	went  int
	begun bool
}

// turn is when a call at a time goes whose cost is so much. It may be behind the greatest time, but the sum stays far below 2^62: no queue is longer than an hour, and no cost is above 2^60.
func (l *last) turn(at, cost int) int {
	if !l.begun {
		return at
	}
	return max(at, l.went+cost)
}

func (l *last) take(turn int) { *l = last{went: turn, begun: true} }
