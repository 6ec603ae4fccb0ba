package client_test

import (
	"math/rand"
	"slices"
	"testing"

	"spillway/api"
	"spillway/client"
)

// life is what a script knows of a request that was taken.
type life struct {
	asked     int
	told      int // how often
	mayAnswer bool
}

// walker is a client with all that it took.
type walker struct {
	t *testing.T
	*client.Client
	s     client.Setting
	now   int
	lives map[int]*life
}

// hear takes what is told, each of a request that waited, once; an answer only where one came in time.
func (w *walker) hear() (answers, falls int) {
	w.t.Helper()
	for _, k := range w.Told() {
		one := w.lives[k.Id]
		if one == nil {
			w.t.Fatalf("told of %d, which was never taken", k.Id)
		}
		one.told++
		if one.told > 1 {
			w.t.Fatalf("%d is told twice", k.Id)
		}
		if k.Fallback {
			falls++
			continue
		}
		answers++
		if !one.mayAnswer {
			w.t.Fatalf("%d is told an answer that came too late, or never", k.Id)
		}
	}
	return answers, falls
}

// holds that each request was told once, or waits, and was asked less than Timeout ago.
func (w *walker) holds() {
	w.t.Helper()
	l := w.Waiting()
	for number, one := range w.lives {
		waits := slices.Contains(l, number)
		if waits == (one.told == 1) || waits && w.now-one.asked >= w.s.Timeout {
			w.t.Fatalf("at %d: %d, asked at %d, was told %d times, and waits: %v", w.now, number, one.asked, one.told, waits)
		}
	}
	if len(l) > api.MaxPending {
		w.t.Fatalf("%d wait", len(l))
	}
}

// answer lets an answer to a request come.
func (w *walker) answer(id int) {
	if one := w.lives[id]; one != nil {
		one.mayAnswer = one.mayAnswer || w.Connected() && w.now-one.asked < w.s.Timeout
	}
	w.Bytes(w.now, answer(w.t, granted(id)))
}

// P21.6, P21.7 (E7): each request that Ask took is told just once, or waits, and was asked less than Timeout ago; an answer that comes later is thrown away.
func TestNothingHangs(t *testing.T) {
	answers, falls, late := 0, 0, 0
	for seed := range 100 {
		r := rand.New(rand.NewSource(int64(seed)))
		s := client.Setting{Timeout: pick(r, 1, 50, 1000), Least: 10, Most: 100}
		w := &walker{t, newClient(t, s), s, 0, map[int]*life{}}
		for range 500 {
			w.now += pick(r, 0, 0, 1, r.Intn(60))
			switch r.Intn(9) {
			case 0:
				w.Up(w.now)
			case 1:
				if r.Intn(8) == 0 {
					w.Lost(w.now)
				}
			case 2, 3, 4:
				if n, _, err := w.Ask(w.now, wantFlow(1, 1)); err == api.OK && n > 0 {
					w.lives[n] = &life{asked: w.now}
				}
			case 5:
				w.Tick(w.now)
			default:
				id := 1 + r.Intn(len(w.lives)+2)
				if one := w.lives[id]; one != nil && one.told == 0 && w.now-one.asked >= s.Timeout {
					late++
				}
				w.answer(id)
			}
			if err := w.Tick(w.now); err != api.OK {
				t.Fatal(err)
			}
			a, f := w.hear()
			answers, falls = answers+a, falls+f
			w.holds()
		}
	}
	if answers < 500 || falls < 500 || late < 50 {
		t.Errorf("%d answers, %d fell back, %d came late", answers, falls, late)
	}
}

// P21.8: who dials as soon as it may, and fails, dials at least Least, and at most Most, behind the dial ahead, and never sooner than it did.
func TestDialsApart(t *testing.T) {
	for seed := range 50 {
		r := rand.New(rand.NewSource(int64(seed)))
		s := client.Setting{Timeout: 5, Least: 1 + r.Intn(20)}
		s.Most = s.Least + r.Intn(100)
		c := newClient(t, s)
		failed, fails, apart := -s.Least, 0, s.Least
		for at := range 3000 {
			may, err := c.Dial(at)
			ok(t, "Dial", err)
			if !may {
				continue
			}
			if fails > 0 && (at-failed < apart || at-failed > s.Most) {
				t.Fatalf("%+v: dials at %d and at %d, and ahead of it %d apart", s, failed, at, apart)
			}
			failed, fails, apart = at, fails+1, max(apart, at-failed)
			ok(t, "Refused", c.Refused(at))
			if r.Intn(10) == 0 {
				ok(t, "Up", c.Up(at))
				ok(t, "Lost", c.Lost(at))
				apart = s.Least
			}
		}
		if fails < 3000/s.Most {
			t.Errorf("%+v: %d dials failed", s, fails)
		}
	}
}
