package warmup_test

import (
	"math"
	"slices"
	"testing"

	"spillway/api"
	"spillway/warmup"
)

const most = 1 << 62 // of what passed

func warmOf(t *testing.T, count, seconds int) *warmup.Warm {
	t.Helper()
	w, err := warmup.New(count, seconds)
	if err != api.OK || w == nil {
		t.Fatalf("New(%d, %d): %v, %v", count, seconds, w, err)
	}
	return w
}

func fill(t *testing.T, w *warmup.Warm, at, past int) int {
	t.Helper()
	rate, err := w.Fill(at, past)
	if err != api.OK {
		t.Fatalf("Fill(%d, %d) = %v", at, past, err)
	}
	return rate
}

// state is all that a warm-up tells of itself, and what it would tell at a time.
type state struct{ tokens, warning, greatest, last, rate int }

func stateOf(w *warmup.Warm) state {
	warning, greatest := w.Marks()
	rate, _ := w.Rate(api.MaxTime, 0)
	return state{w.Tokens(), warning, greatest, w.Last(), rate}
}

// P12.1: New takes counts and seconds to their limits.
func TestNew(t *testing.T) {
	tests := []struct {
		count, seconds int
		err            api.Errno
	}{
		{1, 1, api.OK}, {api.MaxCount, 3600, api.OK}, {100, 10, api.OK},
		{0, 1, api.ErrRange}, {-1, 1, api.ErrRange}, {api.MaxCount + 1, 1, api.ErrRange}, {math.MaxInt, 1, api.ErrRange}, {math.MinInt, 1, api.ErrRange},
		{1, 0, api.ErrRange}, {1, -1, api.ErrRange}, {1, 3601, api.ErrRange}, {1, math.MaxInt, api.ErrRange}, {0, 0, api.ErrRange},
	}
	for _, x := range tests {
		w, err := warmup.New(x.count, x.seconds)
		if err != x.err || (w == nil) != (err != api.OK) {
			t.Errorf("New(%d, %d) = %v, %v, want %v", x.count, x.seconds, w, err, x.err)
		}
	}
}

// P12.1, P12.2: a new one has no tokens, was filled at no time, and has its marks, the warning rounded up.
func TestNewIsEmpty(t *testing.T) {
	tests := []struct{ count, seconds, warning, greatest int }{
		{100, 10, 500, 1000}, {1, 1, 1, 1}, {3, 1, 2, 3}, {1, 2, 1, 2}, {3, 3, 5, 9}, {api.MaxCount, 3600, 1800 * api.MaxCount, 3600 * api.MaxCount},
	}
	for _, x := range tests {
		w := warmOf(t, x.count, x.seconds)
		if warning, greatest := w.Marks(); warning != x.warning || greatest != x.greatest {
			t.Errorf("Marks of %d over %d = %d, %d, want %d, %d", x.count, x.seconds, warning, greatest, x.warning, x.greatest)
		}
		if w.Tokens() != 0 || w.Last() != 0 {
			t.Errorf("a new one of %d over %d has %d tokens, noted %d", x.count, x.seconds, w.Tokens(), w.Last())
		}
		// Filled at no time, all tokens come at the first, at 0 as well.
		if fill(t, w, 0, 0); w.Tokens() != x.greatest {
			t.Errorf("filled first, %d over %d has %d tokens", x.count, x.seconds, w.Tokens())
		}
	}
}

// wants are calls with an error, of one that noted 2000000.
type wants struct {
	at, past, now, n int
	err              api.Errno
}

var refused = []wants{
	{-1, 0, 0, 1, api.ErrRange}, {math.MinInt, 0, 0, 1, api.ErrRange}, {api.MaxTime + 1, 0, 0, 1, api.ErrRange}, {math.MaxInt, 0, 0, 1, api.ErrRange},
	{2000000, -1, 0, 1, api.ErrRange}, {2000000, most + 1, 0, 1, api.ErrRange}, {2000000, math.MaxInt, 0, 1, api.ErrRange}, {2000000, math.MinInt, 0, 1, api.ErrRange},
	{1999999, -1, 0, 1, api.ErrRange}, {0, most + 1, 0, 1, api.ErrRange},
	{1999999, 0, 0, 1, api.ErrBack}, {0, most, 0, 1, api.ErrBack},
}

var refusedTokens = []wants{
	{2000000, 0, -1, 1, api.ErrRange}, {2000000, 0, most + 1, 1, api.ErrRange}, {2000000, 0, math.MaxInt, 1, api.ErrRange}, {2000000, 0, math.MinInt, 1, api.ErrRange},
	{2000000, 0, 0, 0, api.ErrRange}, {2000000, 0, 0, -1, api.ErrRange}, {2000000, 0, 0, api.MaxCount + 1, api.ErrRange}, {2000000, 0, 0, math.MaxInt, api.ErrRange}, {2000000, 0, 0, math.MinInt, api.ErrRange},
	{1999999, 0, -1, 1, api.ErrRange}, {1999999, 0, 0, 0, api.ErrRange}, {1999999, 0, most, api.MaxCount, api.ErrBack},
}

// P12.1, P2: the errors of Fill and Rate, ErrRange ahead of ErrBack; nothing changes.
func TestRefused(t *testing.T) {
	w := warmOf(t, 100, 10)
	fill(t, w, 2000000, 7)
	was := stateOf(w)
	for _, x := range refused {
		if rate, err := w.Fill(x.at, x.past); rate != 0 || err != x.err {
			t.Errorf("Fill(%d, %d) = %d, %v, want %v", x.at, x.past, rate, err, x.err)
		}
		if rate, err := w.Rate(x.at, x.past); rate != 0 || err != x.err {
			t.Errorf("Rate(%d, %d) = %d, %v, want %v", x.at, x.past, rate, err, x.err)
		}
		if got := stateOf(w); got != was {
			t.Fatalf("refused at %d, %d, it changes from %+v to %+v", x.at, x.past, was, got)
		}
	}
}

// P12.2, P2: the errors of Look and Take, ErrRange of all numbers ahead of ErrBack; nothing changes.
func TestRefusedTokens(t *testing.T) {
	w := warmOf(t, 100, 10)
	fill(t, w, 2000000, 7)
	was := stateOf(w)
	for _, x := range slices.Concat(refused, refusedTokens) {
		if passes, err := w.Look(x.at, x.past, x.now, x.n); passes || err != x.err {
			t.Errorf("Look(%d, %d, %d, %d) = %v, %v, want %v", x.at, x.past, x.now, x.n, passes, err, x.err)
		}
		if passes, err := w.Take(x.at, x.past, x.now, x.n); passes || err != x.err {
			t.Errorf("Take(%d, %d, %d, %d) = %v, %v, want %v", x.at, x.past, x.now, x.n, passes, err, x.err)
		}
		if got := stateOf(w); got != was {
			t.Fatalf("refused at %+v, it changes from %+v to %+v", x, was, got)
		}
	}
}

// P1: a nil one answers ErrNil ahead of all other errors, and else zero values.
func TestNil(t *testing.T) {
	var w *warmup.Warm
	for _, x := range []int{0, -1, math.MaxInt, math.MinInt} {
		if rate, err := w.Fill(x, x); rate != 0 || err != api.ErrNil {
			t.Errorf("Fill(%d) = %d, %v", x, rate, err)
		}
		if rate, err := w.Rate(x, x); rate != 0 || err != api.ErrNil {
			t.Errorf("Rate(%d) = %d, %v", x, rate, err)
		}
		if passes, err := w.Look(x, x, x, x); passes || err != api.ErrNil {
			t.Errorf("Look(%d) = %v, %v", x, passes, err)
		}
		if passes, err := w.Take(x, x, x, x); passes || err != api.ErrNil {
			t.Errorf("Take(%d) = %v, %v", x, passes, err)
		}
	}
	if warning, greatest := w.Marks(); warning != 0 || greatest != 0 || w.Tokens() != 0 || w.Last() != 0 || w.Fork() != nil {
		t.Error("a nil one has something")
	}
}

// Chapter 12, example 1: a count of 100 over 10 seconds.
func TestExample(t *testing.T) {
	w := warmOf(t, 100, 10)
	if warning, greatest := w.Marks(); warning != 500 || greatest != 1000 {
		t.Fatalf("Marks = %d, %d", warning, greatest)
	}
	steps := []struct{ at, past, tokens, rate int }{
		{0, 0, 1000, 33},
		{1000000, 33, 967, 34},
		{2000000, 367, 600, 71}, // busy, so no tokens come
		{3000000, 101, 499, 100},
	}
	for _, x := range steps {
		if rate := fill(t, w, x.at, x.past); rate != x.rate || w.Tokens() != x.tokens {
			t.Errorf("at %d: %d tokens, rate %d, want %d, %d", x.at, w.Tokens(), rate, x.tokens, x.rate)
		}
	}
}

// P12.1: what comes to a warm-up of 100 over 10 seconds, and what goes, step by step.
func TestFill(t *testing.T) {
	w := warmOf(t, 100, 10)
	steps := []struct {
		name                   string
		at, past, tokens, rate int
	}{
		{"first, and more passed than come", 1500000, 2000, 0, 100},
		{"the same second, once more", 1999999, 5, 0, 100},
		{"below the warning, and busy", 2000000, 40, 60, 100},
		{"three seconds later", 5999999, 60, 300, 100},
		{"two more", 7000000, 1, 499, 100},
		{"still below", 8000000, 99, 500, 100},
		{"at the warning, and busy: a third of 100 is 33", 9000000, 33, 467, 100},
		{"below it", 10000000, 66, 501, 99},
		{"above it, and busy", 11000000, 33, 468, 100},
		{"below it", 12000000, 0, 568, 78},
		{"above it, and not busy: 32", 13999999, 32, 636, 64},
		{"above it, and busy, behind a while", 33000000, 34, 602, 71},
		{"not busy, behind a while: no more than the greatest come", 53000000, 30, 970, 34},
		{"all goes", 54000000, most, 0, 100},
		{"at the end of all times", api.MaxTime, 0, 1000, 33},
	}
	for _, x := range steps {
		if rate := fill(t, w, x.at, x.past); rate != x.rate || w.Tokens() != x.tokens {
			t.Errorf("%s: %d tokens, rate %d, want %d, %d", x.name, w.Tokens(), rate, x.tokens, x.rate)
		}
		if w.Last() != x.at {
			t.Errorf("%s: Last = %d", x.name, w.Last())
		}
	}
}

// P12.1: a time that is the noted one is none ahead of it; and the second at which it was filled stays, however late in it it is noted.
func TestFillInOneSecond(t *testing.T) {
	w := warmOf(t, 10, 4)
	for _, at := range []int{3000000, 3000000, 3999999, 3999999} {
		if rate := fill(t, w, at, 5); rate != 4 || w.Tokens() != 35 {
			t.Fatalf("at %d: %d tokens, rate %d", at, w.Tokens(), rate)
		}
	}
	if fill(t, w, 4000000, 0); w.Tokens() != 40 {
		t.Errorf("a second later: %d tokens", w.Tokens())
	}
}

// P12.1: the least counts and times: a warning that is the greatest leaves the count as the rate; a rate is at least 1.
func TestLeastCounts(t *testing.T) {
	tests := []struct{ count, seconds, rate int }{
		{1, 1, 1}, {1, 2, 1}, {1, 3600, 1}, {2, 1, 1}, {2, 2, 1}, {3, 1, 1}, {4, 1, 1}, {5, 1, 1}, {6, 1, 2}, {7, 1, 2}, {8, 3600, 2}, {9, 3600, 3},
	}
	for _, x := range tests {
		if rate := fill(t, warmOf(t, x.count, x.seconds), 0, 0); rate != x.rate {
			t.Errorf("%d over %d, cold: %d, want %d", x.count, x.seconds, rate, x.rate)
		}
	}
}

// P12.2: Look and Take tell whether now and n together are not above the rate; Take fills, Look and Rate change nothing.
func TestTake(t *testing.T) {
	tests := []struct {
		now, n int
		want   bool
	}{
		{0, 33, true}, {0, 34, false}, {32, 1, true}, {33, 1, false}, {31, 2, true}, {32, 2, false}, {0, 1, true},
		{most, 1, false}, {0, api.MaxCount, false}, {most, api.MaxCount, false},
	}
	for _, x := range tests {
		w := warmOf(t, 100, 10)
		was := stateOf(w)
		if passes, err := w.Look(5, 0, x.now, x.n); passes != x.want || err != api.OK {
			t.Errorf("Look(%d, %d) = %v, %v, want %v", x.now, x.n, passes, err, x.want)
		}
		if rate, err := w.Rate(5, 0); rate != 33 || err != api.OK {
			t.Errorf("Rate = %d, %v", rate, err)
		}
		if got := stateOf(w); got != was {
			t.Errorf("looked at, it changes from %+v to %+v", was, got)
		}
		if passes, err := w.Take(5, 0, x.now, x.n); passes != x.want || err != api.OK {
			t.Errorf("Take(%d, %d) = %v, %v, want %v", x.now, x.n, passes, err, x.want)
		}
		if w.Tokens() != 1000 || w.Last() != 5 {
			t.Errorf("Take(%d, %d) leaves %d tokens, notes %d", x.now, x.n, w.Tokens(), w.Last())
		}
	}
}

// P12.2: tokens up to the greatest numbers that may be: all of MaxCount pass at once when it is warm.
func TestTakeGreat(t *testing.T) {
	w := warmOf(t, api.MaxCount, 3600)
	for _, x := range []struct {
		past, now, n int
		want         bool
	}{{0, 0, api.MaxCount / 3, true}, {0, 0, api.MaxCount/3 + 1, false}, {most, 0, api.MaxCount, true}, {most, 1, api.MaxCount, false}, {most, most, api.MaxCount, false}} {
		if passes, err := w.Look(api.MaxTime, x.past, x.now, x.n); passes != x.want || err != api.OK {
			t.Errorf("Look(%d, %d, %d) = %v, %v, want %v", x.past, x.now, x.n, passes, err, x.want)
		}
	}
	if rate := fill(t, w, 0, most); rate != api.MaxCount || w.Tokens() != 0 {
		t.Errorf("emptied: %d tokens, rate %d", w.Tokens(), rate)
	}
	if rate := fill(t, w, api.MaxTime, most); rate != api.MaxCount || w.Tokens() != 0 {
		t.Errorf("emptied at the end of all times: %d tokens, rate %d", w.Tokens(), rate)
	}
}

// P4: of one and its Fork, what becomes of the one changes nothing of the other.
func TestFork(t *testing.T) {
	w := warmOf(t, 100, 10)
	fill(t, w, 1000000, 20)
	was := stateOf(w)
	fork := w.Fork()
	if stateOf(fork) != was {
		t.Fatalf("Fork = %+v, want %+v", stateOf(fork), was)
	}
	fill(t, fork, 5000000, 300)
	if stateOf(w) != was || stateOf(fork) == was {
		t.Errorf("the fork filled: %+v, %+v, was %+v", stateOf(w), stateOf(fork), was)
	}
	is := stateOf(fork)
	fill(t, w, 3000000, 800)
	if stateOf(fork) != is {
		t.Errorf("filled, its fork changes from %+v to %+v", is, stateOf(fork))
	}
	// A fork of a new one was never filled either.
	if fresh := warmOf(t, 100, 10).Fork(); fill(t, fresh, 9000000, 1) != 33 || fresh.Tokens() != 999 {
		t.Errorf("a fork of a new one: %d tokens", fresh.Tokens())
	}
}

// P12.2: Slowest is the least of the thirds of what is above 0; of none 0. P3: the list stays.
func TestSlowest(t *testing.T) {
	tests := []struct {
		l    []int
		want int
	}{
		{nil, 0}, {[]int{0}, 0}, {[]int{-1, 0, math.MinInt, -300}, 0},
		{[]int{100}, 33}, {[]int{1}, 1}, {[]int{2}, 1}, {[]int{3}, 1}, {[]int{5}, 1}, {[]int{6}, 2},
		{[]int{100, 10, 50}, 3}, {[]int{10, 100, 0, -7}, 3}, {[]int{0, 100, 1}, 1}, {[]int{9, 6, 9}, 2},
		{[]int{math.MaxInt}, math.MaxInt / 3}, {[]int{api.MaxCount, math.MaxInt}, api.MaxCount / 3},
	}
	for _, x := range tests {
		was := slices.Clone(x.l)
		if got := warmup.Slowest(x.l...); got != x.want {
			t.Errorf("Slowest(%v) = %d, want %d", x.l, got, x.want)
		}
		if !slices.Equal(x.l, was) {
			t.Errorf("Slowest changes %v to %v", was, x.l)
		}
	}
}
