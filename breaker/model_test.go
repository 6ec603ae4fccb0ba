package breaker_test

import (
	"math/big"
	"math/rand"
	"testing"

	"spillway/api"
	"spillway/breaker"
)

// ended is an entry's end.
type ended struct {
	at  int
	bad bool
}

// model is a breaker as the document tells of it: it keeps all ends, and counts those of a window anew each time.
type model struct {
	api.Break
	state       breaker.State
	until       int
	trips, last int
	ends        []ended
}

func newModel(r api.Break) *model { return &model{Break: r, state: breaker.Closed} }

// counts are of the window at a time: of the bucket in which it lies.
func (m *model) counts(at int) api.Counts {
	var c api.Counts
	for _, e := range m.ends {
		if e.at/m.Window != at/m.Window {
			continue
		}
		c.Done++
		if e.bad {
			c.Errors++
		}
	}
	return c
}

func (m *model) isBad(rt int, failed bool) bool {
	return m.Grade == api.SlowRatio && rt > m.Slow || m.Grade != api.SlowRatio && failed
}

func (m *model) isBroken(c api.Counts) bool {
	if c.Done < m.Least {
		return false
	}
	if m.Grade == api.ErrorCount {
		return c.Errors > m.Count
	}
	ratio, limit := big.NewRat(int64(c.Errors), int64(c.Done)), big.NewRat(int64(m.Count), 1000)
	return ratio.Cmp(limit) > 0 || m.Count == 1000 && c.Errors == c.Done
}

func (m *model) lets(at int) bool {
	switch m.state {
	case breaker.Closed:
		return true
	case breaker.Open:
		return at >= m.until
	}
	return false
}

func (m *model) open(at int) {
	m.state, m.until, m.trips = breaker.Open, at+m.Recover, m.trips+1
}

func (m *model) enter(at int) (passes, probe bool) {
	m.last = at
	passes = m.lets(at)
	if passes && m.state == breaker.Open {
		m.state, probe = breaker.HalfOpen, true
	}
	return passes, probe
}

func (m *model) done(at, rt int, failed, probe bool) api.Errno {
	if probe && m.state != breaker.HalfOpen {
		return api.ErrNone
	}
	m.last = at
	bad := m.isBad(rt, failed)
	if probe {
		if bad {
			m.open(at)
		} else {
			m.state, m.until, m.ends = breaker.Closed, 0, nil
		}
		return api.OK
	}
	if m.state == breaker.Closed {
		m.ends = append(m.ends, ended{at, bad})
		if m.isBroken(m.counts(at)) {
			m.open(at)
		}
	}
	return api.OK
}

func (m *model) giveUp(at int) api.Errno {
	if m.state != breaker.HalfOpen {
		return api.ErrNone
	}
	m.state, m.last = breaker.Open, at
	return api.OK
}

func (m *model) stands() state {
	lets, letsEnd := m.lets(m.last), m.lets(api.MaxTime)
	s := state{state: m.state, isOpen: m.state != breaker.Closed, trips: m.trips, last: m.last, sum: m.counts(m.last), late: m.counts(api.MaxTime), lets: lets, letsEnd: letsEnd}
	if s.isOpen {
		s.until = m.until
	}
	return s
}

func pick(r *rand.Rand, l ...int) int { return l[r.Intn(len(l))] }

// anyRule is one that trips now and then.
func anyRule(r *rand.Rand) api.Break {
	b := api.Break{Resource: "a", Grade: api.Grade(r.Intn(3)), Least: pick(r, 1, 2, 1+r.Intn(8)), Window: pick(r, second, 2*second-1, second+r.Intn(10*second), 120*second), Recover: pick(r, second, second+r.Intn(10*second), hour)}
	switch b.Grade {
	case api.SlowRatio:
		b.Count, b.Slow = pick(r, 0, 500, 999, 1000, r.Intn(1001)), pick(r, 1, 100, hour)
	case api.ErrorRatio:
		b.Count = pick(r, 0, 333, 500, 1000, r.Intn(1001))
	default:
		b.Count = pick(r, 0, 1, r.Intn(6))
	}
	return b
}

// later is a time that is not ahead of the noted one, often near the until, or a bucket's end.
func (m *model) later(r *rand.Rand) int {
	end := m.last - m.last%m.Window + m.Window
	at := pick(r, m.last, m.last+1, m.last+r.Intn(second), m.last+r.Intn(second/10), m.last+r.Intn(second/10), end-1, end, m.until-1, m.until, m.until+1)
	if r.Intn(500) == 0 {
		at = m.last + r.Intn(hour)
	}
	return min(max(at, m.last), api.MaxTime)
}

// step does any one call to both, and holds the answers against each other.
func step(t *testing.T, r *rand.Rand, b *breaker.Breaker, m *model) {
	t.Helper()
	at := m.later(r)
	if passes, err := b.Look(at); passes != m.lets(at) || err != api.OK {
		t.Fatalf("%+v: Look(%d) = %v, %v", m, at, passes, err)
	}
	if c, err := b.Sum(at); c != m.counts(at) || err != api.OK {
		t.Fatalf("%+v: Sum(%d) = %+v, %v, want %+v", m, at, c, err, m.counts(at))
	}
	switch n := r.Intn(20); {
	case n == 0:
		if got, want := b.GiveUp(at), m.giveUp(at); got != want {
			t.Fatalf("%+v: GiveUp(%d) = %v, want %v", m, at, got, want)
		}
	case n < 8:
		passes, probe, err := b.Enter(at)
		if wantPasses, wantProbe := m.enter(at); passes != wantPasses || probe != wantProbe || err != api.OK {
			t.Fatalf("%+v: Enter(%d) = %v, %v, %v, want %v, %v", m, at, passes, probe, err, wantPasses, wantProbe)
		}
	default:
		rt, failed, probe := pick(r, 0, max(m.Slow, 1), m.Slow+1, api.MaxTime), r.Intn(2) == 0, r.Intn(5) == 0
		if got, want := b.Done(at, rt, failed, probe), m.done(at, rt, failed, probe); got != want {
			t.Fatalf("%+v: Done(%d, %d, %v, %v) = %v, want %v", m, at, rt, failed, probe, got, want)
		}
	}
	if got, want := stateOf(b), m.stands(); got != want {
		t.Fatalf("behind a call at %d: %+v, want %+v", at, got, want)
	}
}

// P14.1 to P14.3: any calls, held against the document; all states come, and all ways from one to another.
func TestModel(t *testing.T) {
	r := rand.New(rand.NewSource(14))
	ways := map[[2]breaker.State]int{}
	for range 500 {
		rule := anyRule(r)
		b, m := breakerOf(t, rule), newModel(rule)
		if r.Intn(20) == 0 {
			m.enter(api.MaxTime - r.Intn(10*second))
			b.Enter(m.last)
		}
		for range 80 {
			was := b.State()
			step(t, r, b, m)
			ways[[2]breaker.State{was, b.State()}]++
		}
	}
	for _, way := range [][2]breaker.State{{breaker.Closed, breaker.Open}, {breaker.Open, breaker.HalfOpen}, {breaker.HalfOpen, breaker.Open}, {breaker.HalfOpen, breaker.Closed}} {
		if ways[way] < 100 {
			t.Errorf("from %d to %d only %d times", way[0], way[1], ways[way])
		}
	}
}
