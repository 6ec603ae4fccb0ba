package stream

import "slices"

// connection is two ways, each in the place of the end that writes.
type connection [2]way

// way is the bytes that one end wrote: those that are under way, and those that have come to the other end.
type way struct {
	under, come queue
	closed      bool
}

// queue is bytes in their order.
type queue []byte

// from is the way on which an end writes; to the one from which it reads.
func (c *connection) from(end int) *way { return &c[end] }

func (c *connection) to(end int) *way { return &c[1-end] }

func (c *connection) fork() *connection {
	fork := *c
	for i, w := range c {
		fork[i].under, fork[i].come = slices.Clone(w.under), slices.Clone(w.come)
	}
	return &fork
}

// move lets so many bytes come, at most: how many did.
func (w *way) move(most int) int {
	b := w.under.take(most)
	w.come.put(b)
	return len(b)
}

// isOver tells whether all was read that ever will be.
func (w *way) isOver() bool { return w.closed && len(w.under) == 0 && len(w.come) == 0 }

func (q *queue) put(b []byte) { *q = append(*q, b...) }

// take takes so many of the first bytes, at most.
func (q *queue) take(most int) []byte {
	n := min(most, len(*q))
	taken := slices.Clone((*q)[:n])
	*q = (*q)[n:]
	return taken
}

// hasTwice tells whether a number stands twice.
func hasTwice(l []int) bool {
	sorted := slices.Sorted(slices.Values(l))
	return len(slices.Compact(sorted)) < len(l)
}
