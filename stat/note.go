package stat

import (
	"slices"

	"spillway/api"
	"spillway/num"
	"spillway/window"
)

// most is the greatest number that a window takes.
const most = 1 << 62

// ofSecond and ofPair are nil of a nil node, and a nil window answers as a nil node must.
func (n *Node) ofSecond() *window.Window {
	if n == nil {
		return nil
	}
	return n.second
}

func (n *Node) ofPair() *window.Window {
	if n == nil {
		return nil
	}
	return n.pair
}

// refuses is the error of a call that would note a time, if it has one; mayBe tells of its other numbers.
func (n *Node) refuses(at int, mayBe bool) api.Errno {
	switch {
	case n == nil:
		return api.ErrNil
	case !mayBe || !isTime(at):
		return api.ErrRange
	case at < n.Last():
		return api.ErrBack
	}
	return api.OK
}

// note lets both windows note the same. Neither refuses it: the numbers are right, and no time of theirs is later than the node's.
func (n *Node) note(at int, c api.Counts) api.Errno {
	n.second.Add(at, c)
	return n.pair.Add(at, c)
}

func isTime(at int) bool {
	return at >= 0 && at <= api.MaxTime
}

func areCounts(l []int) bool {
	return !slices.ContainsFunc(l, func(n int) bool { return n < 1 || n > api.MaxCount })
}

// sum is all counts together, as a window would have them one by one: what would be above most stays at that.
func sum(counts []int) int {
	return min(num.Plus(counts...), most)
}
