package world_test

import (
	"math"
	"slices"
	"testing"

	"spillway/api"
	"spillway/world"
)

func clockAt(t *testing.T, at int) *world.Clock {
	t.Helper()
	c, err := world.NewClock(at)
	if err != api.OK || c == nil {
		t.Fatalf("NewClock(%d): %v, %v", at, c, err)
	}
	return c
}

// P2.1: a clock stands from 0 to MaxTime.
func TestNewClock(t *testing.T) {
	for _, at := range []int{0, 1, 5, api.MaxTime - 1, api.MaxTime} {
		if got := clockAt(t, at).Now(); got != at {
			t.Errorf("Now of a clock at %d: %d", at, got)
		}
	}
	for _, at := range []int{-1, api.MaxTime + 1, math.MinInt, math.MaxInt} {
		if c, err := world.NewClock(at); c != nil || err != api.ErrRange {
			t.Errorf("NewClock(%d): %v, %v", at, c, err)
		}
	}
}

// P2.1: Tick, to its edges; with an error the clock stays (P2), and a sum does not go round (P5).
func TestTick(t *testing.T) {
	tests := []struct {
		from int
		by   []int
		at   int
		err  api.Errno
	}{
		{5, []int{1, 2}, 8, api.OK},
		{5, nil, 5, api.OK},
		{5, []int{0, 0}, 5, api.OK},
		{0, []int{api.MaxTime}, api.MaxTime, api.OK},
		{api.MaxTime, []int{0}, api.MaxTime, api.OK},
		{1, []int{api.MaxTime - 2, 1}, api.MaxTime, api.OK},
		{5, []int{-1}, 0, api.ErrRange},
		{5, []int{2, -1}, 0, api.ErrRange},
		{5, []int{2, -1, 2}, 0, api.ErrRange},
		{5, []int{math.MinInt}, 0, api.ErrRange},
		{1, []int{api.MaxTime}, 0, api.ErrRange},
		{1, []int{api.MaxTime - 2, 2}, 0, api.ErrRange},
		{api.MaxTime, []int{1}, 0, api.ErrRange},
		{5, []int{math.MaxInt}, 0, api.ErrRange},
		{5, []int{math.MaxInt, math.MaxInt, 2}, 0, api.ErrRange},
	}
	for _, x := range tests {
		c := clockAt(t, x.from)
		at, err := c.Tick(x.by...)
		if at != x.at || err != x.err {
			t.Errorf("at %d, Tick(%v) = %d, %v, want %d, %v", x.from, x.by, at, err, x.at, x.err)
		}
		stands := x.at
		if x.err != api.OK {
			stands = x.from
		}
		if got := c.Now(); got != stands {
			t.Errorf("at %d, behind Tick(%v) it stands at %d, want %d", x.from, x.by, got, stands)
		}
	}
}

// P2.1: Set goes to a time, never back; ErrRange is named ahead of ErrBack.
func TestSet(t *testing.T) {
	tests := []struct {
		from, to int
		err      api.Errno
	}{
		{5, 9, api.OK},
		{5, 5, api.OK},
		{0, api.MaxTime, api.OK},
		{5, 4, api.ErrBack},
		{8, 0, api.ErrBack},
		{api.MaxTime, api.MaxTime - 1, api.ErrBack},
		{5, -1, api.ErrRange},
		{5, math.MinInt, api.ErrRange},
		{5, api.MaxTime + 1, api.ErrRange},
		{5, math.MaxInt, api.ErrRange},
	}
	for _, x := range tests {
		c := clockAt(t, x.from)
		if err := c.Set(x.to); err != x.err {
			t.Errorf("at %d, Set(%d) = %v, want %v", x.from, x.to, err, x.err)
		}
		stands := x.to
		if x.err != api.OK {
			stands = x.from
		}
		if got := c.Now(); got != stands {
			t.Errorf("at %d, behind Set(%d) it stands at %d, want %d", x.from, x.to, got, stands)
		}
	}
}

// P2.1: the document's example.
func TestClockExample(t *testing.T) {
	c := clockAt(t, 5)
	if at, err := c.Tick(1, 2); at != 8 || err != api.OK {
		t.Errorf("Tick(1, 2) = %d, %v", at, err)
	}
	if err := c.Set(7); err != api.ErrBack || c.Now() != 8 {
		t.Errorf("Set(7) = %v, it stands at %d", err, c.Now())
	}
}

// P2.5: ticks together are one tick of their sum, and so are ticks one behind the other.
func TestTicksTogether(t *testing.T) {
	for _, by := range [][]int{{}, {3}, {1, 2, 3}, {0, 7, 0}, {api.Second, 1, api.MaxCount}} {
		sum := 0
		apart := clockAt(t, 11)
		for _, n := range by {
			sum += n
			apart.Tick(n)
		}
		together, one := clockAt(t, 11), clockAt(t, 11)
		together.Tick(by...)
		one.Tick(sum)
		if together.Now() != one.Now() || apart.Now() != one.Now() || one.Now() != 11+sum {
			t.Errorf("%v: together %d, apart %d, their sum %d", by, together.Now(), apart.Now(), one.Now())
		}
	}
}

// P3: what is handed to Tick stays.
func TestTickLeavesList(t *testing.T) {
	by := []int{1, 2, 3, 4}
	c := clockAt(t, 5)
	c.Tick(by[:2]...)
	if !slices.Equal(by, []int{1, 2, 3, 4}) {
		t.Errorf("the list became %v", by)
	}
}

// P4: of a clock and its Fork the one stays where the other one goes.
func TestClockFork(t *testing.T) {
	a := clockAt(t, 5)
	b := a.Fork()
	if b == nil || b.Now() != 5 {
		t.Fatalf("the Fork stands at %d", b.Now())
	}
	a.Tick(10)
	if b.Now() != 5 {
		t.Errorf("the Fork went to %d", b.Now())
	}
	if err := b.Set(7); err != api.OK || a.Now() != 15 || b.Now() != 7 {
		t.Errorf("Set(7) = %v: %d and %d", err, a.Now(), b.Now())
	}
}

// P1, P2: a nil clock answers zero values, or ErrNil, which is named first.
func TestNilClock(t *testing.T) {
	var c *world.Clock
	if got := c.Now(); got != 0 {
		t.Errorf("Now = %d", got)
	}
	for _, by := range [][]int{nil, {1}, {-1}} {
		if at, err := c.Tick(by...); at != 0 || err != api.ErrNil {
			t.Errorf("Tick(%v) = %d, %v", by, at, err)
		}
	}
	for _, at := range []int{-1, 0, 1} {
		if err := c.Set(at); err != api.ErrNil {
			t.Errorf("Set(%d) = %v", at, err)
		}
	}
	if got := c.Fork(); got != nil {
		t.Errorf("Fork = %v", got)
	}
}
