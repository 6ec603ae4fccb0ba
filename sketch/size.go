package sketch

import "spillway/api"

// size is how great a sketch is.
type size struct {
	width, buckets, rows, columns int
}

// refused is the error of a size that may not be.
func (z size) refused() api.Errno {
	switch {
	case !within(z.width, api.MaxWidth), !within(z.buckets, api.MaxBuckets), !within(z.rows, maxRows), !within(z.columns, maxColumns):
		return api.ErrRange
	case z.width%z.buckets != 0:
		return api.ErrForm
	}
	return api.OK
}

// begin is where the bucket begins in which a time lies.
func (z size) begin(at int) int {
	return at - at%(z.width/z.buckets)
}

// first is where the first bucket of the window at a time begins, or would begin, if it is ahead of 0.
func (z size) first(at int) int {
	return z.begin(at) - z.width + z.width/z.buckets
}

func within(n, most int) bool { return n >= 1 && n <= most }
