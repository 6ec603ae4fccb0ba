package guard

import (
	"math"

	"spillway/api"
	"spillway/num"
)

const (
	greatest = 1 << 62 // that a number of Now may be
	inSecond = 10      // of the buckets of which Most is the greatest
)

// mayBe tells whether what is so, and a call of n tokens, may be.
func (now Now) mayBe(n int) bool {
	for _, x := range [...]int{now.Qps, now.Threads, now.Rt, now.Load, now.Cpu, now.Most, now.Least} {
		if x < 0 || x > greatest {
			return false
		}
	}
	return n >= 1 && n <= api.MaxCount
}

// blocking is the first field of a right rule that blocks a call of n tokens, where all may be, so that no sum goes round.
func (now Now) blocking(r api.System, n int) string {
	switch {
	case isAbove(now.Qps+n, r.Qps):
		return "qps"
	case isAbove(now.Threads+1, r.Threads):
		return "threads"
	case isAbove(now.Rt, r.Rt):
		return "rt"
	case isAbove(now.Load, r.Load) && TooMany(now.Threads, now.Most, now.Least):
		return "load"
	case isAbove(now.Cpu, r.Cpu):
		return "cpu"
	}
	return ""
}

// isAbove tells whether a number is above a limit that is asked for.
func isAbove(n, limit int) bool { return limit != -1 && n > limit }

// room is how many entries in flight have their place by the greatest bucket and the least time. Entries are whole, so that they are above the exact number just if they are above it rounded down; one that int64 cannot hold none are above.
func room(most, least int) int {
	n, err := num.MulDiv(max(most, 0), max(least, 0), api.Second/inSecond, false)
	if err != api.OK {
		return math.MaxInt
	}
	return n
}
