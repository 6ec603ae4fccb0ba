package hot_test

import (
	"fmt"
	"math/rand"
	"testing"

	"spillway/api"
	"spillway/hot"
)

// P15.3: what counts as used is never less than what was taken in the window, of no value, however few are kept.
func TestNeverLess(t *testing.T) {
	r := rand.New(rand.NewSource(153))
	for range 60 {
		rule, keys, many := anyRule(r), pick(r, 1, 2, 5, 20), pick(r, 3, 30, 500)
		rule.Count = 1 + r.Intn(30)
		h, m := hotOf(t, rule, keys, r.Uint64()), newModel(t, rule, keys, 0)
		for range 200 {
			at, value, count := m.later(r), valueOf(r, many), 1+r.Intn(4)
			for range 3 {
				other := valueOf(r, many)
				if got, err := h.Used(at, other); got < m.exactly(at, other) || err != api.OK {
					t.Fatalf("Used(%d, %q) = %d, %v, where %d were taken", at, other, got, err, m.exactly(at, other))
				}
			}
			m.last = at
			if take(t, h, at, value, count) {
				m.taken = append(m.taken, tokens{at, value, count})
			}
		}
	}
}

// E1: in any nine tenths of the rule's seconds no more of a value is taken than its limit, also of those that went out of the map.
func TestNeverTooFast(t *testing.T) {
	r := rand.New(rand.NewSource(1531))
	full := 0
	for range 60 {
		rule, keys := anyRule(r), pick(r, 1, 2, 3)
		h, m := hotOf(t, rule, keys, r.Uint64()), newModel(t, rule, keys, 0)
		taken := map[string][]tokens{}
		for range 400 {
			value, count := valueOf(r, 8), 1+r.Intn(3)
			m.last = m.later(r)
			if take(t, h, m.last, value, count) {
				taken[value] = append(taken[value], tokens{m.last, value, count})
			}
		}
		for value, l := range taken {
			most := mostWithin(l, rule.Seconds*second/10*9)
			if most > h.Limit(value) {
				t.Fatalf("of %q, limit %d, in nine tenths of %d seconds: %d", value, h.Limit(value), rule.Seconds, most)
			}
			if most == h.Limit(value) {
				full++
			}
		}
	}
	if full < 100 {
		t.Errorf("the limit came up only %d times", full)
	}
}

// mostWithin is the most that was taken within so long.
func mostWithin(l []tokens, long int) int {
	most := 0
	for i := range l {
		sum := 0
		for _, x := range l[i:] {
			if x.at-l[i].at <= long {
				sum += x.n
			}
		}
		most = max(most, sum)
	}
	return most
}

// state is all that a rule at work tells of some values: which are kept, what counts as used at its last time and later ones.
func stateOf(h *hot.Hot, last int, values ...string) string {
	s := fmt.Sprintf("%q", h.Kept())
	for _, value := range values {
		s += fmt.Sprintf(" %q of %d:", value, h.Limit(value))
		for _, at := range []int{last - 1, last, last + second/2, last + second, api.MaxTime} {
			used, err := h.Used(at, value)
			s += fmt.Sprintf(" %d,%d", used, err)
		}
	}
	return s
}

// E5: calls that do not pass, or are refused, change nothing but the time: all else is as without them.
func TestBlockedChangesNothing(t *testing.T) {
	r := rand.New(rand.NewSource(155))
	blocked := 0
	for range 100 {
		rule, keys, seed := anyRule(r), pick(r, 1, 2, 5), r.Uint64()
		with, without, m := hotOf(t, rule, keys, seed), hotOf(t, rule, keys, seed), newModel(t, rule, keys, seed)
		for range 100 {
			m.last = m.later(r)
			value, count := valueOf(r, 10), pick(r, 1, 2, 5, 200)
			with.Take(-1, value, count)
			with.Take(m.last, value, 0)
			if !take(t, with, m.last, value, count) {
				blocked++
				m.last = m.later(r)
			} else {
				take(t, without, m.last, value, count)
			}
			other := valueOf(r, 10)
			if got, want := take(t, with, m.last, other, 1), take(t, without, m.last, other, 1); got != want {
				t.Fatalf("at %d: %v, without what was blocked %v", m.last, got, want)
			}
			if got, want := stateOf(with, m.last, value, other, "v0"), stateOf(without, m.last, value, other, "v0"); got != want {
				t.Fatalf("at %d: %s, without what was blocked %s", m.last, got, want)
			}
		}
	}
	if blocked < 1000 {
		t.Errorf("only %d blocked", blocked)
	}
}
