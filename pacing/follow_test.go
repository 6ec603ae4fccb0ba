package pacing_test

import (
	"math/big"
	"math/rand"
	"testing"

	"spillway/api"
	"spillway/pacing"
)

// model is a pace as the document tells of it, in numbers of any size.
type model struct {
	count, queue int
	noted        int
	went         []*big.Int // when calls went, in order
}

func number(n int) *big.Int { return big.NewInt(int64(n)) }

// cost is rounded up.
func cost(count, rate int) *big.Int {
	whole := new(big.Int).Mul(number(count), number(1000000))
	whole.Add(whole, number(rate-1))
	return whole.Div(whole, number(rate))
}

// turn is when a call goes, if it may wait so long.
func (m *model) turn(at, count, rate int) (*big.Int, bool) {
	turn := number(at)
	if n := len(m.went); n > 0 {
		if behind := new(big.Int).Add(m.went[n-1], cost(count, rate)); behind.Cmp(turn) > 0 {
			turn = behind
		}
	}
	wait := new(big.Int).Sub(turn, number(at))
	return turn, wait.Cmp(number(m.queue)) <= 0
}

func (m *model) look(at, count, rate int) answer {
	turn, goes := m.turn(at, count, rate)
	if !goes {
		return blocked
	}
	return waits(int(turn.Sub(turn, number(at)).Int64()))
}

func (m *model) take(at, count, rate int) {
	m.noted = at
	if turn, goes := m.turn(at, count, rate); goes {
		m.went = append(m.went, turn)
	}
}

func pick(r *rand.Rand, l ...int) int { return l[r.Intn(len(l))] }

// anyCount is small as often as great.
func anyCount(r *rand.Rand) int {
	return pick(r, 1, 2, 3, 1+r.Intn(20), 1+r.Intn(3000000), 1+r.Intn(api.MaxCount), api.MaxCount-1, api.MaxCount)
}

func anyQueue(r *rand.Rand) int {
	return pick(r, 0, 1, r.Intn(1000), r.Intn(api.Second), r.Intn(hour), hour-1, hour)
}

// later is a time that is not ahead of the noted one: often near the turn of the call, or where it may just wait for it.
func (m *model) later(r *rand.Rand, count, rate int) int {
	turn, _ := m.turn(m.noted, count, rate)
	near := int(turn.Int64()) - pick(r, 0, m.queue) + r.Intn(3) - 1
	at := pick(r, near, near, m.noted, m.noted+r.Intn(10), m.noted+r.Intn(api.Second), m.noted+r.Intn(100*api.Second))
	return min(max(at, m.noted), api.MaxTime)
}

// checkGo lets one call go, by the Count or by a rate, and tells the time at which it came.
func checkGo(t *testing.T, r *rand.Rand, p *pacing.Pace, m *model) int {
	t.Helper()
	count, rate := anyCount(r), anyCount(r)
	byRate := r.Intn(3) == 0
	if !byRate {
		rate = m.count
	}
	if r.Intn(2) == 0 {
		count = min(1+r.Intn(5)*rate, api.MaxCount)
	}
	at := m.later(r, count, rate)
	want := m.look(at, count, rate)
	if got := of(p.Look(at, count)); got != m.look(at, count, m.count) {
		t.Fatalf("%d, queue %d: Look(%d, %d) = %v, want %v", m.count, m.queue, at, count, got, m.look(at, count, m.count))
	}
	var got answer
	if byRate {
		got = of(p.At(at, count, rate))
	} else {
		got = of(p.Go(at, count))
	}
	if got != want {
		t.Fatalf("%d, queue %d: at %d, %d at the rate %d: %v, want %v", m.count, m.queue, at, count, rate, got, want)
	}
	m.take(at, count, rate)
	return at
}

func checkNext(t *testing.T, p *pacing.Pace, m *model) {
	t.Helper()
	next, begun := p.Next()
	if n := len(m.went); begun != (n > 0) || n > 0 && number(next).Cmp(m.went[n-1]) != 0 || n == 0 && next != 0 {
		t.Fatalf("Next = %d, %v, want the last one of %v", next, begun, m.went)
	}
	if m.noted > 0 {
		if got := of(p.Look(m.noted-1, 1)); got != fails(api.ErrBack) {
			t.Fatalf("Look ahead of the noted time: %v", got)
		}
	}
}

// P13.1, P13.2: any calls, held against the document.
func TestAll(t *testing.T) {
	r := rand.New(rand.NewSource(13))
	for range 1500 {
		m := &model{count: anyCount(r), queue: anyQueue(r)}
		p := paceOf(t, m.count, m.queue)
		if r.Intn(20) == 0 {
			m.noted = api.MaxTime - r.Intn(10*api.Second)
			m.take(m.noted, 1, m.count)
			p.Go(m.noted, 1)
		}
		for range 60 {
			checkGo(t, r, p, m)
			checkNext(t, p, m)
		}
	}
}

// P13.3, E2: of two calls that went the later one went at least its cost behind the earlier one, whatever lay between; nobody waits longer than Queue, or less than not at all.
func TestApart(t *testing.T) {
	r := rand.New(rand.NewSource(133))
	for range 500 {
		count, queue := 1+r.Intn(50), r.Intn(2*api.Second)
		p := paceOf(t, count, queue)
		at, last, begun := r.Intn(api.Second), 0, false
		for range 100 {
			at += r.Intn(2 * api.Second / count)
			n, rate := 1+r.Intn(4), count
			got := answer{}
			if r.Intn(3) == 0 {
				rate = 1 + r.Intn(100)
				got = of(p.At(at, n, rate))
			} else {
				got = of(p.Go(at, n))
			}
			if !got.goes {
				continue
			}
			went := at + got.wait
			if apart := number(went - last); begun && apart.Cmp(cost(n, rate)) < 0 {
				t.Fatalf("%d at the rate %d went %v behind the one ahead", n, rate, apart)
			}
			if got.wait < 0 || got.wait > queue {
				t.Fatalf("waits %d, queue %d", got.wait, queue)
			}
			last, begun = went, true
		}
	}
}

// P13.4: who does not go changes nothing but the time that is noted: what comes behind is decided as without it.
func TestDoesNotGo(t *testing.T) {
	r := rand.New(rand.NewSource(134))
	tried := 0
	for range 500 {
		count, queue, at := 1+r.Intn(50), r.Intn(api.Second), r.Intn(api.Second)
		p := paceOf(t, count, queue)
		for range 20 {
			at += r.Intn(api.Second / count)
			without := p.Fork()
			if n := 1 + r.Intn(50); of(p.Go(at, n)) == blocked {
				tried++
				if stateOf(p).next != stateOf(without).next {
					t.Fatalf("%d that do not go take a turn", n)
				}
				for i := range 5 {
					later := at + i*r.Intn(api.Second)
					if got, want := of(p.Look(later, 1+i)), of(without.Look(later, 1+i)); got != want {
						t.Fatalf("behind %d that do not go: %v, without them %v", n, got, want)
					}
				}
			}
		}
	}
	if tried < 1000 {
		t.Errorf("only %d did not go", tried)
	}
}
