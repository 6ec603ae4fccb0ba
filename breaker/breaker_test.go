package breaker_test

import (
	"math"
	"strings"
	"testing"

	"spillway/api"
	"spillway/breaker"
	"spillway/rules"
)

const (
	second = api.Second
	hour   = 3600 * second
)

// errorRatio is half of five entries at least, in a second, with a second to recover.
var errorRatio = api.Break{Resource: "a", Grade: api.ErrorRatio, Count: 500, Least: 5, Window: second, Recover: second}

func breakerOf(t *testing.T, r api.Break) *breaker.Breaker {
	t.Helper()
	b, err := breaker.New(r)
	if err != api.OK || b == nil {
		t.Fatalf("New(%+v): %v, %v", r, b, err)
	}
	return b
}

func done(t *testing.T, b *breaker.Breaker, at, rt int, failed, probe bool) {
	t.Helper()
	if err := b.Done(at, rt, failed, probe); err != api.OK {
		t.Fatalf("Done(%d, %d, %v, %v) = %v", at, rt, failed, probe, err)
	}
}

// state is all that a breaker tells of itself, and what it would tell at its last time, and at a late one.
type state struct {
	state         breaker.State
	until         int
	isOpen        bool
	trips, last   int
	sum, late     api.Counts
	lets, letsEnd bool
}

func stateOf(b *breaker.Breaker) state {
	s := state{state: b.State(), trips: b.Trips(), last: b.Last()}
	s.until, s.isOpen = b.Until()
	s.sum, _ = b.Sum(b.Last())
	s.late, _ = b.Sum(api.MaxTime)
	s.lets, _ = b.Look(b.Last())
	s.letsEnd, _ = b.Look(api.MaxTime)
	return s
}

// stands holds a breaker's state, until and trips against what is wanted; an until of -1 is none.
func stands(t *testing.T, name string, b *breaker.Breaker, want breaker.State, until, trips int) {
	t.Helper()
	got, isOpen := b.Until()
	if !isOpen {
		if got != 0 {
			t.Errorf("%s: no until, but %d", name, got)
		}
		got = -1
	}
	if b.State() != want || got != until || b.Trips() != trips {
		t.Errorf("%s: state %d until %d behind %d trips, want %d, %d, %d", name, b.State(), got, b.Trips(), want, until, trips)
	}
}

// opened is one that tripped at a time, and is open for a second from then on.
func opened(t *testing.T, at int) *breaker.Breaker {
	t.Helper()
	b := breakerOf(t, api.Break{Resource: "a", Grade: api.ErrorCount, Least: 1, Window: second, Recover: second})
	done(t, b, at, 0, true, false)
	stands(t, "opened", b, breaker.Open, at+second, 1)
	return b
}

// halfOpen is one that tripped at a time, and let its probe pass when a second was over.
func halfOpen(t *testing.T, at int) *breaker.Breaker {
	t.Helper()
	b := opened(t, at)
	if passes, probe, err := b.Enter(at + second); !passes || !probe || err != api.OK {
		t.Fatalf("the probe: %v, %v, %v", passes, probe, err)
	}
	return b
}

// The states have the numbers of the document.
func TestStates(t *testing.T) {
	if breaker.Closed != 1 || breaker.Open != 2 || breaker.HalfOpen != 3 {
		t.Error(breaker.Closed, breaker.Open, breaker.HalfOpen)
	}
}

// P14.1: New has just the errors of rules.Break; else it is closed, and nothing was noted.
func TestNew(t *testing.T) {
	with := func(change func(r *api.Break)) api.Break {
		r := errorRatio
		change(&r)
		return r
	}
	tests := []struct {
		r   api.Break
		err api.Errno
	}{
		{errorRatio, api.OK},
		{api.Break{Resource: "a", Grade: api.SlowRatio, Count: 1000, Slow: hour, Least: api.MaxCount, Window: 120 * second, Recover: hour}, api.OK},
		{api.Break{Resource: "a", Grade: api.ErrorCount, Count: api.MaxCount, Least: 1, Window: second, Recover: second}, api.OK},
		{api.Break{}, api.ErrName},
		{with(func(r *api.Break) { r.Resource = "a b" }), api.ErrName},
		{with(func(r *api.Break) { r.Resource = strings.Repeat("a", api.MaxName+1) }), api.ErrName},
		{with(func(r *api.Break) { r.Resource, r.Count = "", -1 }), api.ErrName},
		{with(func(r *api.Break) { r.Grade = api.ErrorCount + 1 }), api.ErrBreak},
		{with(func(r *api.Break) { r.Count = -1 }), api.ErrBreak},
		{with(func(r *api.Break) { r.Count = 1001 }), api.ErrBreak},
		{with(func(r *api.Break) { r.Slow = 1 }), api.ErrBreak},
		{with(func(r *api.Break) { r.Grade = api.SlowRatio }), api.ErrBreak},
		{with(func(r *api.Break) { r.Least = 0 }), api.ErrBreak},
		{with(func(r *api.Break) { r.Window = 0 }), api.ErrBreak},
		{with(func(r *api.Break) { r.Window = math.MaxInt }), api.ErrBreak},
		{with(func(r *api.Break) { r.Recover = 200000 }), api.ErrBreak},
		{with(func(r *api.Break) { r.Recover = math.MinInt }), api.ErrBreak},
	}
	for _, x := range tests {
		b, err := breaker.New(x.r)
		if err != x.err || err != rules.Break(x.r) || (b == nil) != (err != api.OK) {
			t.Errorf("New(%+v) = %v, %v, want %v", x.r, b, err, x.err)
		}
		if x.err == api.OK && stateOf(b) != (state{state: breaker.Closed, lets: true, letsEnd: true}) {
			t.Errorf("a new one of %+v: %+v", x.r, stateOf(b))
		}
	}
}

// Chapter 14, example 1, with the least Recover that a right rule may have.
func TestExample(t *testing.T) {
	b := breakerOf(t, errorRatio)
	for at := 1; at <= 5; at++ {
		stands(t, "ahead of the fifth end", b, breaker.Closed, -1, 0)
		done(t, b, at, 0, at <= 3, false)
	}
	stands(t, "behind it", b, breaker.Open, 1000005, 1)
	if passes, err := b.Look(1000004); passes || err != api.OK {
		t.Errorf("Look ahead of its until: %v, %v", passes, err)
	}
	if passes, probe, err := b.Enter(1000005); !passes || !probe || err != api.OK {
		t.Errorf("Enter at its until: %v, %v, %v", passes, probe, err)
	}
	if passes, probe, err := b.Enter(1000006); passes || probe || err != api.OK {
		t.Errorf("Enter behind the probe: %v, %v, %v", passes, probe, err)
	}
	done(t, b, 1000007, 0, false, true)
	stands(t, "when the probe ended well", b, breaker.Closed, -1, 1)
	if passes, probe, err := b.Enter(1000007); !passes || probe || err != api.OK {
		t.Errorf("Enter when it is closed: %v, %v, %v", passes, probe, err)
	}
}

// Words: when it trips: by how many of how many ends are bad; what "bad" is of each grade.
func TestTrips(t *testing.T) {
	tests := []struct {
		name         string
		grade        api.Grade
		count, least int
		ends         string // b: bad, w: well, in order
		trips        bool   // at the last one, and not sooner
	}{
		{"just the ratio", api.ErrorRatio, 500, 4, "bbww", false},
		{"above the ratio", api.ErrorRatio, 500, 4, "bbwb", true},
		{"above it, by an end that is well", api.ErrorRatio, 500, 5, "bbbww", true},
		{"fewer than Least", api.ErrorRatio, 500, 6, "bbbbb", false},
		{"a third", api.ErrorRatio, 333, 3, "wwb", true},
		{"just less than a third", api.ErrorRatio, 334, 3, "wwb", false},
		{"none at 0", api.ErrorRatio, 0, 1, "www", false},
		{"one at 0", api.ErrorRatio, 0, 1, "wwb", true},
		{"the whole, of one", api.ErrorRatio, 1000, 1, "b", true},
		{"the whole", api.ErrorRatio, 1000, 3, "bbb", true},
		{"less than the whole", api.ErrorRatio, 1000, 1, "wbbbbbbb", false},
		{"none of the whole", api.ErrorRatio, 1000, 1, "ww", false},
		{"nearly the whole", api.ErrorRatio, 999, 3, "bbb", true},
		{"slow: just the ratio", api.SlowRatio, 500, 2, "bw", false},
		{"slow: above it", api.SlowRatio, 500, 3, "bwb", true},
		{"slow: the whole", api.SlowRatio, 1000, 2, "bb", true},
		{"slow: less than the whole", api.SlowRatio, 1000, 1, "wbb", false},
		{"slow: none at 0", api.SlowRatio, 0, 1, "w", false},
		{"a count: just it", api.ErrorCount, 3, 1, "bbbwwwww", false},
		{"a count: above it", api.ErrorCount, 3, 1, "bbwbwb", true},
		{"a count: fewer than Least", api.ErrorCount, 3, 10, "bbbbbbbbb", false},
		{"a count: above it, when an end is well", api.ErrorCount, 3, 6, "bbbbbw", true},
		{"a count of 0", api.ErrorCount, 0, 1, "wwb", true},
		{"a count of 0, and none", api.ErrorCount, 0, 1, "www", false},
		{"a count of 1000 is no ratio", api.ErrorCount, 1000, 1, "bbb", false},
	}
	for _, x := range tests {
		r := api.Break{Resource: "a", Grade: x.grade, Count: x.count, Least: x.least, Window: second, Recover: second}
		if x.grade == api.SlowRatio {
			r.Slow = 100
		}
		b := breakerOf(t, r)
		for i, end := range x.ends {
			stands(t, x.name+", not yet", b, breaker.Closed, -1, 0)
			bad := end == 'b'
			rt, failed := 1000, bad
			if x.grade == api.SlowRatio { // whether it failed is of no account
				rt, failed = 100, !bad
				if bad {
					rt = 101
				}
			}
			done(t, b, 10+i, rt, failed, false)
		}
		if at := 10 + len(x.ends) - 1; x.trips {
			stands(t, x.name, b, breaker.Open, at+second, 1)
		} else {
			stands(t, x.name, b, breaker.Closed, -1, 0)
		}
	}
}

// Words: of SlowRatio those are bad that took longer than Slow, to the ends of all times; of the others those that failed, however long they took.
func TestBad(t *testing.T) {
	slow := api.Break{Resource: "a", Grade: api.SlowRatio, Slow: 7, Least: 1, Window: second, Recover: second}
	ratio, count := errorRatio, errorRatio
	ratio.Count, ratio.Least = 0, 1
	count.Grade, count.Count, count.Least = api.ErrorCount, 0, 1
	tests := []struct {
		r      api.Break
		rt     int
		failed bool
		bad    bool
	}{
		{slow, 0, true, false}, {slow, 7, false, false}, {slow, 7, true, false}, {slow, 8, false, true}, {slow, api.MaxTime, true, true},
		{ratio, 0, true, true}, {ratio, api.MaxTime, false, false}, {ratio, api.MaxTime, true, true},
		{count, 0, true, true}, {count, api.MaxTime, false, false}, {count, api.MaxTime, true, true},
	}
	for _, x := range tests {
		b := breakerOf(t, x.r)
		done(t, b, 5, x.rt, x.failed, false)
		if isOpen := b.State() == breaker.Open; isOpen != x.bad {
			t.Errorf("of %+v an end behind %d, failed %v: open %v", x.r, x.rt, x.failed, isOpen)
		}
		want := api.Counts{Done: 1}
		if x.bad {
			want.Errors = 1
		}
		if c, err := b.Sum(5); c != want || err != api.OK {
			t.Errorf("of %+v an end behind %d, failed %v: %+v, %v", x.r, x.rt, x.failed, c, err)
		}
		// The same of a probe.
		b = halfOpenOf(t, x.r, 5)
		done(t, b, 5+second, x.rt, x.failed, true)
		if isOpen := b.State() == breaker.Open; isOpen != x.bad {
			t.Errorf("of %+v a probe that ends behind %d, failed %v: open %v", x.r, x.rt, x.failed, isOpen)
		}
	}
}

// halfOpenOf is one that trips by one bad end, at a time, and let its probe pass a second later.
func halfOpenOf(t *testing.T, r api.Break, at int) *breaker.Breaker {
	t.Helper()
	b := breakerOf(t, r)
	done(t, b, at, hour, true, false)
	if passes, probe, err := b.Enter(at + r.Recover); !passes || !probe || err != api.OK {
		t.Fatalf("the probe of %+v: %v, %v, %v", r, passes, probe, err)
	}
	return b
}

// Words, P14.3: the window is one bucket: what ended in an earlier one is of no account, however near.
func TestWindow(t *testing.T) {
	r := errorRatio
	r.Window = 2 * second
	b := breakerOf(t, r)
	for at := range 4 {
		done(t, b, 2*second-4+at, 0, true, false)
	}
	if c, _ := b.Sum(2*second - 1); c != (api.Counts{Done: 4, Errors: 4}) {
		t.Errorf("in the first bucket: %+v", c)
	}
	if c, err := b.Sum(2 * second); c != (api.Counts{}) || err != api.OK {
		t.Errorf("in the second one: %+v, %v", c, err)
	}
	for at := range 4 {
		done(t, b, 2*second+at, 0, true, false)
	}
	stands(t, "four in each of two buckets", b, breaker.Closed, -1, 0)
	done(t, b, 4*second-1, 0, false, false)
	stands(t, "five in one bucket", b, breaker.Open, 5*second-1, 1)
	if c, _ := b.Sum(4*second - 1); c != (api.Counts{Done: 5, Errors: 4}) {
		t.Errorf("behind the trip: %+v", c)
	}
	if c, _ := b.Sum(4 * second); c != (api.Counts{}) {
		t.Errorf("in the next bucket: %+v", c)
	}
}

// P14.4: an open one lets nothing pass ahead of its until; at it, one; Recover and the trip's time say when that is.
func TestOpen(t *testing.T) {
	for _, recovers := range []int{second, second + 1, hour} {
		r := api.Break{Resource: "a", Grade: api.ErrorCount, Least: 1, Window: second, Recover: recovers}
		for _, late := range []int{0, 1, 5 * hour} {
			b := breakerOf(t, r)
			done(t, b, 77, 0, true, false)
			until := 77 + recovers
			for _, at := range []int{77, 78, 77 + recovers/2, until - 1} {
				if passes, err := b.Look(at); passes || err != api.OK {
					t.Errorf("Look(%d) until %d: %v, %v", at, until, passes, err)
				}
				if passes, probe, err := b.Enter(at); passes || probe || err != api.OK {
					t.Errorf("Enter(%d) until %d: %v, %v, %v", at, until, passes, probe, err)
				}
				stands(t, "open", b, breaker.Open, until, 1)
			}
			if passes, err := b.Look(until + late); !passes || err != api.OK {
				t.Errorf("Look %d behind its until: %v, %v", late, passes, err)
			}
			stands(t, "looked at", b, breaker.Open, until, 1)
			if passes, probe, err := b.Enter(until + late); !passes || !probe || err != api.OK {
				t.Errorf("Enter %d behind its until: %v, %v, %v", late, passes, probe, err)
			}
			stands(t, "half open", b, breaker.HalfOpen, until, 1)
		}
	}
}

// Words: until when it is open, at the end of all times: it passes it, and lets nothing pass any more.
func TestOpenAtTheEnd(t *testing.T) {
	b := breakerOf(t, api.Break{Resource: "a", Grade: api.ErrorCount, Least: 1, Window: second, Recover: hour})
	done(t, b, api.MaxTime, api.MaxTime, true, false)
	stands(t, "at the end", b, breaker.Open, api.MaxTime+hour, 1)
	if passes, probe, err := b.Enter(api.MaxTime); passes || probe || err != api.OK {
		t.Errorf("Enter: %v, %v, %v", passes, probe, err)
	}
}

// Words: a half open one lets nothing pass, however late.
func TestHalfOpen(t *testing.T) {
	b := halfOpen(t, 0)
	for _, at := range []int{second, second + 1, 2 * second, hour, api.MaxTime} {
		if passes, err := b.Look(at); passes || err != api.OK {
			t.Errorf("Look(%d) = %v, %v", at, passes, err)
		}
		if passes, probe, err := b.Enter(at); passes || probe || err != api.OK {
			t.Errorf("Enter(%d) = %v, %v, %v", at, passes, probe, err)
		}
		stands(t, "half open", b, breaker.HalfOpen, second, 1)
	}
}

// Words, P14.2: the probe's end: bad: open again, from then on; well: closed, and the window has noted nothing.
func TestProbe(t *testing.T) {
	b := halfOpen(t, 100)
	done(t, b, 1500000, 0, true, true)
	stands(t, "a bad end", b, breaker.Open, 2500000, 2)
	if passes, _, _ := b.Enter(2499999); passes {
		t.Error("open again, it lets pass ahead of its until")
	}
	if passes, probe, _ := b.Enter(2500000); !passes || !probe {
		t.Error("open again, it lets no probe pass at its until")
	}
	done(t, b, 2500000, 0, false, true)
	stands(t, "a good end", b, breaker.Closed, -1, 2)
	if b.Last() != 2500000 {
		t.Errorf("Last = %d", b.Last())
	}
	done(t, b, 2500001, 0, true, false)
	stands(t, "a bad end when it is closed", b, breaker.Open, 3500001, 3)
}

// Words: when the probe ends well, what the window had noted in the same bucket is gone; and the noted time stays.
func TestProbeBegins(t *testing.T) {
	b := breakerOf(t, api.Break{Resource: "a", Grade: api.ErrorCount, Count: 2, Least: 1, Window: 120 * second, Recover: second})
	for at := range 3 {
		done(t, b, at, 0, true, false)
	}
	stands(t, "behind three", b, breaker.Open, second+2, 1)
	b.Enter(second + 2)
	if c, _ := b.Sum(second + 2); c != (api.Counts{Done: 3, Errors: 3}) {
		t.Errorf("half open: %+v", c)
	}
	done(t, b, second+3, 0, false, true)
	if c, err := b.Sum(second + 3); c != (api.Counts{}) || err != api.OK {
		t.Errorf("closed: %+v, %v", c, err)
	}
	if c, err := b.Sum(second + 2); c != (api.Counts{}) || err != api.ErrBack {
		t.Errorf("ahead of that: %+v, %v", c, err)
	}
	done(t, b, second+4, 0, true, false)
	done(t, b, second+5, 0, true, false)
	stands(t, "two more", b, breaker.Closed, -1, 1)
	done(t, b, second+6, 0, true, false)
	stands(t, "three more", b, breaker.Open, 2*second+6, 2)
}

// Words: when the probe ends badly, the window's counts stay, and the probe is none of them.
func TestProbeEndsBadly(t *testing.T) {
	b := halfOpenOf(t, api.Break{Resource: "a", Grade: api.ErrorCount, Least: 1, Window: 120 * second, Recover: second}, 3)
	done(t, b, second+4, 0, true, true)
	if c, _ := b.Sum(second + 4); c != (api.Counts{Done: 1, Errors: 1}) {
		t.Errorf("open again: %+v", c)
	}
}

// P14.2: a probe that is given up: open, until as it was, and no trip more; the next one is the probe.
func TestGiveUp(t *testing.T) {
	b := halfOpen(t, 100)
	if err := b.GiveUp(3 * second); err != api.OK {
		t.Fatal(err)
	}
	stands(t, "given up", b, breaker.Open, 100+second, 1)
	if b.Last() != 3*second {
		t.Errorf("Last = %d", b.Last())
	}
	if c, _ := b.Sum(3 * second); c != (api.Counts{}) {
		t.Errorf("given up: %+v", c)
	}
	if err := b.GiveUp(3 * second); err != api.ErrNone {
		t.Errorf("given up twice: %v", err)
	}
	if err := b.Done(3*second, 0, false, true); err != api.ErrNone {
		t.Errorf("done when it was given up: %v", err)
	}
	if passes, probe, err := b.Enter(3 * second); !passes || !probe || err != api.OK {
		t.Errorf("the next one: %v, %v, %v", passes, probe, err)
	}
	stands(t, "half open", b, breaker.HalfOpen, 100+second, 1)
}

// P14.2: there is no probe to end, or to be given up, of one that is closed, or open; nothing changes.
func TestNoProbe(t *testing.T) {
	for name, b := range map[string]*breaker.Breaker{"closed": breakerOf(t, errorRatio), "open": opened(t, 50)} {
		was := stateOf(b)
		for _, at := range []int{50, second, api.MaxTime} {
			for _, failed := range []bool{false, true} {
				if err := b.Done(at, 5, failed, true); err != api.ErrNone {
					t.Errorf("%s: Done(%d) of a probe: %v", name, at, err)
				}
			}
			if err := b.GiveUp(at); err != api.ErrNone {
				t.Errorf("%s: GiveUp(%d): %v", name, at, err)
			}
			if got := stateOf(b); got != was {
				t.Fatalf("%s: it changes from %+v to %+v", name, was, got)
			}
		}
	}
}

// P14.6: ends of entries while it is open, or half open (but the probe's), change nothing but the time that is noted.
func TestLateEnds(t *testing.T) {
	for name, b := range map[string]*breaker.Breaker{"open": opened(t, 50), "half open": halfOpen(t, 50)} {
		was := stateOf(b)
		for i := range 20 {
			at := 2*second + i
			done(t, b, at, hour, i%2 == 0, false)
			got := stateOf(b)
			if got.last != at {
				t.Errorf("%s: Last = %d, want %d", name, got.last, at)
			}
			if c, _ := b.Sum(at); c != (api.Counts{}) {
				t.Errorf("%s: %+v", name, c)
			}
			if got.state != was.state || got.until != was.until || got.trips != was.trips || got.letsEnd != was.letsEnd {
				t.Fatalf("%s: it changes from %+v to %+v", name, was, got)
			}
		}
	}
}

// P14.1, P14.3: Look and Sum note nothing; Enter notes the time, whether the call passes or not.
func TestNoted(t *testing.T) {
	for name, b := range map[string]*breaker.Breaker{"closed": breakerOf(t, errorRatio), "open": opened(t, 50), "half open": halfOpen(t, 50)} {
		was := stateOf(b)
		for _, at := range []int{5 * second, second + 50, api.MaxTime} {
			b.Look(at)
			b.Sum(at)
			if got := stateOf(b); got != was {
				t.Fatalf("%s: looked at, it changes from %+v to %+v", name, was, got)
			}
		}
		for _, at := range []int{second + 50, second + 50, second + 51, api.MaxTime} {
			if _, _, err := b.Enter(at); err != api.OK || b.Last() != at {
				t.Errorf("%s: Enter(%d) = %v, Last = %d", name, at, err, b.Last())
			}
			if passes, err := b.Look(at - 1); passes || err != api.ErrBack {
				t.Errorf("%s: Look ahead of it: %v, %v", name, passes, err)
			}
		}
	}
}

// P14.2: the least and the greatest times are times.
func TestTimes(t *testing.T) {
	b := breakerOf(t, errorRatio)
	for _, at := range []int{0, api.MaxTime} {
		done(t, b, at, api.MaxTime-at, false, false)
		if b.Last() != at {
			t.Errorf("Last = %d", b.Last())
		}
	}
	if c, err := b.Sum(api.MaxTime); c != (api.Counts{Done: 1}) || err != api.OK {
		t.Errorf("at the end of all times: %+v, %v", c, err)
	}
}
