package token_test

import (
	"math/rand"
	"testing"

	"spillway/api"
	"spillway/token"
)

const tenth = second / 10

// restarts begins a server anew at times, and lets the connection 1 be of the namespace a again.
func restarts(t *testing.T, r *rand.Rand, s *token.Server, at int) {
	t.Helper()
	if r.Intn(60) > 0 {
		return
	}
	if err := s.Restart(at); err != api.OK {
		t.Fatal(err)
	}
	open(t, s, 1, "a")
}

// someTime is a time behind another one, often at the end or the beginning of a bucket.
func someTime(r *rand.Rand, at int) int {
	return pick(r, at, at+r.Intn(3000), at+r.Intn(30000), at/tenth*tenth+tenth-1, at/tenth*tenth+tenth, at+r.Intn(second))
}

// P20.4, E6: in any nine tenths of a second no more of a Rate is granted than its Count, nor of a value, however calls come, also over a Restart.
func TestNeverTooFast(t *testing.T) {
	for seed := range 40 {
		r := rand.New(rand.NewSource(int64(seed)))
		count := 1 + r.Intn(20)
		s := serving(t, rate(1, count), value(2, count))
		grants := map[string][]granted{}
		at, full := 0, 0
		for range 1500 {
			at = someTime(r, at)
			restarts(t, r, s, at)
			if r.Intn(40) == 0 {
				s.Load("a", rate(3, 1))
				s.Load("a", rate(1, count), value(2, count))
			}
			q, key := wantFlow(1, 1+r.Intn(4)), "of the Rate"
			if r.Intn(2) == 0 {
				key = pick(r, "v", "w")
				q = wantParam(2, 1+r.Intn(4), key)
			}
			if do(t, s, at, 1, q).Status == api.Granted {
				grants[key] = append(grants[key], granted{at: at, count: q.Count})
			}
			sum := 0
			for _, g := range grants[key] {
				if g.at > at-9*tenth {
					sum += g.count
				}
			}
			if sum > count {
				t.Fatalf("seed %d: %s %d are granted in nine tenths of a second up to %d, of %d", seed, key, sum, at, count)
			}
			if sum == count {
				full++
			}
		}
		if full < 20 {
			t.Errorf("seed %d: all of the Count was granted %d times", seed, full)
		}
	}
}

// P20.5: never more of a Lease is out than its Count, also of what was let out ahead of a Restart; P20.6: each token has a number of its own.
func TestNeverTooManyOut(t *testing.T) {
	for seed := range 40 {
		r := rand.New(rand.NewSource(int64(seed)))
		count, lasts := 1+r.Intn(9), second+r.Intn(2*second)
		s := serving(t, lease(1, count, lasts), lease(2, 1000, second))
		held := map[int]token.Token{} // by those whom it was told
		numbers := map[int]bool{}
		at, full := 0, 0
		for range 1500 {
			at = someTime(r, at)
			restarts(t, r, s, at)
			switch number := 1 + r.Intn(len(numbers)+1); r.Intn(3) {
			case 0:
				if do(t, s, at, 1, giveBack(number)).Status == api.Released {
					delete(held, number)
				}
			case 1:
				if a := do(t, s, at, 1, wantToken(2, 1)); a.Status == api.Granted {
					numbers[a.Token] = true
				}
			}
			q := wantToken(1, 1+r.Intn(3))
			if a := do(t, s, at, 1, q); a.Status == api.Granted {
				if numbers[a.Token] || a.Token < 1 || a.Wait != lasts {
					t.Fatalf("seed %d: %+v", seed, a)
				}
				numbers[a.Token] = true
				held[a.Token] = token.Token{Count: q.Count, Until: at + a.Wait}
			}
			sum := 0
			for number, one := range held {
				if one.Until <= at {
					delete(held, number)
				} else {
					sum += one.Count
				}
			}
			if sum > count {
				t.Fatalf("seed %d: at %d %d are out, of %d", seed, at, sum, count)
			}
			if sum == count {
				full++
			}
		}
		if full < 20 {
			t.Errorf("seed %d: as many were out as may be %d times", seed, full)
		}
	}
}

// P20.7: whatever is asked in one namespace, requests of another one are answered alike, but for the numbers of tokens.
func TestNamespacesApart(t *testing.T) {
	for seed := range 60 {
		r := rand.New(rand.NewSource(int64(seed)))
		alone := serving(t, rate(1, 5), value(2, 5), lease(3, 5, second))
		beside := alone.Fork()
		load(t, beside, "b", rate(4, 5), value(5, 5), lease(6, 500, second))
		open(t, beside, 2, "b")
		texts := []string{"v", "w"}
		numbers := map[int]int{} // of the tokens beside, by those of the tokens alone
		at, granted := 0, 0
		for range 400 {
			at = someTime(r, at)
			for range r.Intn(3) {
				q := anyOf(r, 1+r.Intn(6), texts)
				do(t, beside, at, 2, q)
			}
			q := anyOf(r, 1+r.Intn(6), texts)
			want := do(t, alone, at, 1, q)
			if q.Want == api.GiveBack {
				if q.Token = numbers[q.Token]; q.Token == 0 {
					continue
				}
			}
			got := do(t, beside, at, 1, q)
			if want.Token > 0 {
				numbers[want.Token] = got.Token
				want.Token = got.Token
			}
			if got != want {
				t.Fatalf("seed %d: at %d %+v: alone %+v, beside another one %+v", seed, at, q, want, got)
			}
			if got.Status == api.Granted {
				granted++
			}
		}
		if granted < 50 {
			t.Errorf("seed %d: %d were granted", seed, granted)
		}
	}
}

// anyOf is a request for tokens of a flow, or that gives some back.
func anyOf(r *rand.Rand, id int, texts []string) api.Request {
	q := wantFlow(id, 1+r.Intn(3))
	switch id % 3 {
	case 2:
		q = wantParam(id, 1+r.Intn(3), pick(r, texts...))
	case 0:
		q = wantToken(id, 1+r.Intn(3))
		if r.Intn(3) == 0 {
			q = giveBack(1 + r.Intn(40))
		}
	}
	return q
}
