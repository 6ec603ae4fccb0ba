package warmup_test

import (
	"math/rand"
	"testing"

	"spillway/api"
	"spillway/warmup"
)

func pick(r *rand.Rand, l ...int) int { return l[r.Intn(len(l))] }

// anyCount and anySeconds are small as often as great.
func anyCount(r *rand.Rand) int {
	return pick(r, 1, 2, 3, 1+r.Intn(20), 1+r.Intn(1000), 1+r.Intn(api.MaxCount), api.MaxCount-1, api.MaxCount)
}

func anySeconds(r *rand.Rand) int { return pick(r, 1, 2, 1+r.Intn(20), 1+r.Intn(3600), 3600) }

func anyPast(r *rand.Rand, count int) int {
	return pick(r, 0, count/3, max(count/3-1, 0), count/3+1, r.Intn(count+1), count, 2*count, most-1, most)
}

// later is a time that is not ahead of another one.
func later(r *rand.Rand, at int) int {
	step := pick(r, 0, 1, r.Intn(api.Second), api.Second-1, api.Second, r.Intn(5*api.Second), r.Intn(10000*api.Second))
	if r.Intn(200) == 0 {
		step = r.Intn(api.MaxTime - at + 1)
	}
	return min(at+step, api.MaxTime)
}

// checkAt holds a warm-up against the document at a time, without a change.
func checkAt(t *testing.T, w *warmup.Warm, m *model, at, past, now, n int) {
	t.Helper()
	want := m.rateAt(at, past)
	if rate, err := w.Rate(at, past); rate != want || err != api.OK {
		t.Fatalf("%d over %d: Rate(%d, %d) = %d, %v, want %d", m.count, m.seconds, at, past, rate, err, want)
	}
	if passes, err := w.Look(at, past, now, n); passes != (now+n <= want) || err != api.OK {
		t.Fatalf("%d over %d: Look(%d, %d, %d, %d) = %v, %v at the rate %d", m.count, m.seconds, at, past, now, n, passes, err, want)
	}
	if w.Tokens() != int(m.tokens.Int64()) {
		t.Fatalf("%d over %d: %d tokens, want %v", m.count, m.seconds, w.Tokens(), m.tokens)
	}
}

// P12.1, P12.2: any calls, held against the document; P12.3, P12.4: tokens from 0 to the greatest, rates from a third to all.
func TestAll(t *testing.T) {
	r := rand.New(rand.NewSource(12))
	for range 300 {
		count, seconds := anyCount(r), anySeconds(r)
		w, m, at := warmOf(t, count, seconds), newModel(count, seconds), 0
		warning, greatest := m.marks()
		if gotWarning, gotGreatest := w.Marks(); gotWarning != warning || gotGreatest != greatest {
			t.Fatalf("Marks of %d over %d = %d, %d, want %d, %d", count, seconds, gotWarning, gotGreatest, warning, greatest)
		}
		for range 100 {
			at = later(r, at)
			past := anyPast(r, count)
			rate := m.rateAt(at, past)
			now, n := pick(r, 0, rate, rate/2, r.Intn(count+1), most), min(pick(r, 1, max(rate-rate/2, 1), 1+r.Intn(count)), api.MaxCount)
			checkAt(t, w, m, at, past, now, n)
			switch r.Intn(3) {
			case 0:
				if got, err := w.Fill(at, past); got != rate || err != api.OK {
					t.Fatalf("%d over %d: Fill(%d, %d) = %d, %v, want %d", count, seconds, at, past, got, err, rate)
				}
			case 1:
				if passes, err := w.Take(at, past, now, n); passes != (now+n <= rate) || err != api.OK {
					t.Fatalf("%d over %d: Take(%d, %d, %d, %d) = %v, %v at the rate %d", count, seconds, at, past, now, n, passes, err, rate)
				}
			default:
				continue
			}
			m.fill(at, past)
			if w.Last() != at || w.Tokens() < 0 || w.Tokens() > greatest {
				t.Fatalf("%d over %d: Last %d, Tokens %d at %d", count, seconds, w.Last(), w.Tokens(), at)
			}
			if rate < max(count/3, 1) || rate > count {
				t.Fatalf("%d over %d: the rate %d", count, seconds, rate)
			}
		}
	}
}

// P12.4: with more tokens the rate is not greater; all tokens of some warm-ups are gone through.
func TestRateFalls(t *testing.T) {
	for _, count := range []int{1, 2, 3, 4, 10, 33, 100} {
		for _, seconds := range []int{1, 2, 3, 10} {
			before := count
			for tokens := range count*seconds + 1 {
				w := warmOf(t, count, seconds)
				rate := fill(t, w, 0, count*seconds-tokens) // all come at first, and the others go
				if w.Tokens() != tokens || rate > before || rate < max(count/3, 1) {
					t.Fatalf("%d over %d with %d tokens: %d, rate %d, before %d", count, seconds, tokens, w.Tokens(), rate, before)
				}
				before = rate
			}
		}
	}
}

// P12.5: behind the first Fill with nothing passed the rate is a third, or at most 1 more.
func TestCold(t *testing.T) {
	r := rand.New(rand.NewSource(125))
	for i := range 5000 {
		count, seconds := i/4+1, i%4+1
		if i > 2000 {
			count, seconds = anyCount(r), anySeconds(r)
		}
		if rate := fill(t, warmOf(t, count, seconds), r.Intn(api.MaxTime), 0); rate < count/3 || rate > count/3+1 {
			t.Fatalf("%d over %d, cold: %d", count, seconds, rate)
		}
	}
}

// warm lets as much pass as the rate says in each second, and tells how many seconds it took till the rate was all of the count; -1: it was less again.
func warm(t *testing.T, count, seconds, first int) int {
	t.Helper()
	w := warmOf(t, count, seconds)
	rate, took := 0, -1
	for i := range 2*seconds + 50 {
		rate = fill(t, w, (first+i)*api.Second, rate)
		if rate < count && took >= 0 {
			return -1
		}
		if rate == count && took < 0 {
			took = i
		}
	}
	return took
}

// P12.6: if just as much passes as the rate says, it is all of the count behind at most 2 w + 4 seconds, and stays.
func TestWarms(t *testing.T) {
	r := rand.New(rand.NewSource(126))
	for i := range 500 {
		count, seconds := 3+i%60, 1+i/60
		if i > 400 {
			count, seconds = max(anyCount(r), 3), anySeconds(r)
		}
		if took := warm(t, count, seconds, r.Intn(1000)); took < 0 || took > 2*seconds+4 {
			t.Errorf("%d over %d: warm behind %d", count, seconds, took)
		}
	}
}
