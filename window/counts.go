package window

import "spillway/api"

// most is the greatest number that counts may have.
const most = 1 << 62

// Join is counts together.
func Join(l ...api.Counts) api.Counts {
	var sum api.Counts
	for _, c := range l {
		if !wrong(c) {
			sum = together(sum, c)
		}
	}
	return sum
}

// wrong says of counts that they are not right.
func wrong(c api.Counts) bool {
	for _, n := range [...]int{c.Pass, c.Block, c.Done, c.Errors, c.RtSum, c.MinRt} {
		if n < 0 || n > most {
			return true
		}
	}
	return c.Errors > c.Done || c.MinRt > c.RtSum || c.Done == 0 && c.RtSum != 0
}

// together is counts that are right, together.
func together(sum api.Counts, l ...api.Counts) api.Counts {
	for _, c := range l {
		sum = api.Counts{
			Pass:   plus(sum.Pass, c.Pass),
			Block:  plus(sum.Block, c.Block),
			Done:   plus(sum.Done, c.Done),
			Errors: plus(sum.Errors, c.Errors),
			RtSum:  plus(sum.RtSum, c.RtSum),
			MinRt:  least(sum, c),
		}
	}
	return sum
}

// plus stays at most; the sum itself might go round.
func plus(a, b int) int {
	if a > most-b {
		return most
	}
	return a + b
}

// least is the MinRt of two together: where nothing is done, it tells nothing.
func least(a, b api.Counts) int {
	switch {
	case a.Done == 0:
		return b.MinRt
	case b.Done == 0:
		return a.MinRt
	}
	return min(a.MinRt, b.MinRt)
}
