package breaker_test

import (
	"math"
	"slices"
	"testing"

	"spillway/api"
	"spillway/breaker"
)

// standings are a closed one, an open one, and a half open one; all noted 2000000.
func standings(t *testing.T) map[string]*breaker.Breaker {
	t.Helper()
	closed := breakerOf(t, errorRatio)
	done(t, closed, 2000000, 0, true, false)
	return map[string]*breaker.Breaker{"closed": closed, "open": opened(t, 2000000), "half open": halfOpen(t, 1000000)}
}

// checkRefused holds all calls at a time against an error.
func checkRefused(t *testing.T, name string, b *breaker.Breaker, at int, want api.Errno) {
	t.Helper()
	if passes, err := b.Look(at); passes || err != want {
		t.Errorf("%s: Look(%d) = %v, %v, want %v", name, at, passes, err, want)
	}
	if passes, probe, err := b.Enter(at); passes || probe || err != want {
		t.Errorf("%s: Enter(%d) = %v, %v, %v, want %v", name, at, passes, probe, err, want)
	}
	for _, probe := range []bool{false, true} {
		if err := b.Done(at, 5, true, probe); err != want {
			t.Errorf("%s: Done(%d, probe %v) = %v, want %v", name, at, probe, err, want)
		}
	}
	if err := b.GiveUp(at); err != want {
		t.Errorf("%s: GiveUp(%d) = %v, want %v", name, at, err, want)
	}
	if c, err := b.Sum(at); c != (api.Counts{}) || err != want {
		t.Errorf("%s: Sum(%d) = %+v, %v, want %v", name, at, c, err, want)
	}
}

// P14.1 to P14.3, P2: the errors of a time, ahead of ErrNone; nothing changes.
func TestRefused(t *testing.T) {
	for name, b := range standings(t) {
		was := stateOf(b)
		for _, x := range []struct {
			at  int
			err api.Errno
		}{
			{-1, api.ErrRange}, {math.MinInt, api.ErrRange}, {api.MaxTime + 1, api.ErrRange}, {math.MaxInt, api.ErrRange},
			{1999999, api.ErrBack}, {1, api.ErrBack}, {0, api.ErrBack},
		} {
			checkRefused(t, name, b, x.at, x.err)
			if got := stateOf(b); got != was {
				t.Fatalf("%s: refused at %d, it changes from %+v to %+v", name, x.at, was, got)
			}
		}
	}
}

// P14.2, P2: Done of what took no time that may be: ErrRange, ahead of ErrBack and ErrNone; nothing changes.
func TestRefusedRt(t *testing.T) {
	for name, b := range standings(t) {
		was := stateOf(b)
		for _, rt := range []int{-1, math.MinInt, api.MaxTime + 1, math.MaxInt} {
			for _, at := range []int{2000000, 1999999, api.MaxTime, -1} {
				for _, probe := range []bool{false, true} {
					if err := b.Done(at, rt, true, probe); err != api.ErrRange {
						t.Errorf("%s: Done(%d, %d, probe %v) = %v", name, at, rt, probe, err)
					}
				}
			}
		}
		if got := stateOf(b); got != was {
			t.Fatalf("%s: it changes from %+v to %+v", name, was, got)
		}
	}
}

// P1, P14.3: a nil one answers ErrNil ahead of all other errors, and else zero values.
func TestNil(t *testing.T) {
	var b *breaker.Breaker
	for _, at := range []int{0, -1, math.MaxInt, math.MinInt} {
		checkRefused(t, "nil", b, at, api.ErrNil)
		if err := b.Done(at, -1, false, true); err != api.ErrNil {
			t.Errorf("Done(%d, -1) = %v", at, err)
		}
	}
	if until, isOpen := b.Until(); until != 0 || isOpen || b.State() != 0 || b.Trips() != 0 || b.Last() != 0 || b.Fork() != nil {
		t.Error("a nil one has something")
	}
}

// P4: of one and its Fork, what becomes of the one changes nothing of the other.
func TestFork(t *testing.T) {
	changes := []func(b *breaker.Breaker){
		func(b *breaker.Breaker) { b.Done(2000001, 0, true, false) },
		func(b *breaker.Breaker) { b.Enter(3000000) },
		func(b *breaker.Breaker) { b.GiveUp(3000000) },
		func(b *breaker.Breaker) { b.Done(3000000, 0, false, true) },
		func(b *breaker.Breaker) { b.Done(3000000, 0, true, true) },
	}
	for i, change := range changes {
		for name, b := range standings(t) {
			was := stateOf(b)
			fork := b.Fork()
			if stateOf(fork) != was {
				t.Fatalf("%s: Fork = %+v, want %+v", name, stateOf(fork), was)
			}
			if change(fork); stateOf(b) != was {
				t.Errorf("%s: change %d of the fork: from %+v to %+v", name, i, was, stateOf(b))
			}
			is := stateOf(fork)
			change(b)
			if stateOf(fork) != is || stateOf(b) != is {
				t.Errorf("%s: change %d of both: %+v, %+v, was %+v", name, i, stateOf(b), stateOf(fork), is)
			}
		}
	}
}

// P14.3: All: the first that would let nothing pass, or how many there are; nil ones are passed over, but are counted. P3: the list stays.
func TestAll(t *testing.T) {
	s := standings(t)
	closed, open, halfOpen := s["closed"], s["open"], s["half open"]
	tests := []struct {
		name string
		at   int
		l    []*breaker.Breaker
		want int
		all  bool
	}{
		{"none", 2000000, nil, 0, true},
		{"nil alone", 2000000, []*breaker.Breaker{nil, nil}, 2, true},
		{"one", 2000000, []*breaker.Breaker{closed}, 1, true},
		{"the first", 2000000, []*breaker.Breaker{open, closed}, 0, false},
		{"the second, and the third", 2000000, []*breaker.Breaker{closed, open, halfOpen}, 1, false},
		{"the last", 2000000, []*breaker.Breaker{closed, closed, halfOpen}, 2, false},
		{"behind nil", 2000000, []*breaker.Breaker{nil, closed, nil, open, nil}, 3, false},
		{"ahead of its until", 2999999, []*breaker.Breaker{closed, open}, 1, false},
		{"at its until", 3000000, []*breaker.Breaker{closed, open, nil, open}, 4, true},
	}
	for _, x := range tests {
		was := slices.Clone(x.l)
		if n, all, err := breaker.All(x.at, x.l...); n != x.want || all != x.all || err != api.OK {
			t.Errorf("%s: %d, %v, %v, want %d, %v", x.name, n, all, err, x.want, x.all)
		}
		if !slices.Equal(x.l, was) {
			t.Errorf("%s: the list changes", x.name)
		}
	}
	if open.State() != breaker.Open || open.Last() != 2000000 {
		t.Error("All lets a probe pass, or notes a time")
	}
}

// P14.3, P2: All: the first error of those that are not nil, also behind one that lets nothing pass.
func TestAllRefused(t *testing.T) {
	s := standings(t)
	early := breakerOf(t, errorRatio)
	tests := []struct {
		name string
		at   int
		l    []*breaker.Breaker
		err  api.Errno
	}{
		{"too early", 1999999, []*breaker.Breaker{nil, early, s["closed"]}, api.ErrBack},
		{"no time", -1, []*breaker.Breaker{nil, early}, api.ErrRange},
		{"behind all times", api.MaxTime + 1, []*breaker.Breaker{s["closed"], s["open"]}, api.ErrRange},
		{"behind one that lets nothing pass", 2000000, []*breaker.Breaker{s["half open"], opened(t, 2000001)}, api.ErrBack},
	}
	for _, x := range tests {
		if n, all, err := breaker.All(x.at, x.l...); n != 0 || all || err != x.err {
			t.Errorf("%s: %d, %v, %v, want %v", x.name, n, all, err, x.err)
		}
	}
	// Where nobody is asked, there is nobody's error.
	if n, all, err := breaker.All(-1, nil, nil); n != 2 || !all || err != api.OK {
		t.Errorf("nil alone: %d, %v, %v", n, all, err)
	}
}
