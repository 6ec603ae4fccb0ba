package pacing_test

import (
	"math"
	"testing"

	"spillway/api"
	"spillway/pacing"
)

const hour = 3600 * api.Second

func paceOf(t *testing.T, count, queue int) *pacing.Pace {
	t.Helper()
	p, err := pacing.New(count, queue)
	if err != api.OK || p == nil {
		t.Fatalf("New(%d, %d): %v, %v", count, queue, p, err)
	}
	return p
}

// answer is what Look, Go and At answer.
type answer struct {
	wait int
	goes bool
	err  api.Errno
}

func of(wait int, goes bool, err api.Errno) answer { return answer{wait, goes, err} }

func waits(n int) answer { return answer{n, true, api.OK} }

func fails(err api.Errno) answer { return answer{err: err} }

var blocked = answer{}

// state is all that a pace tells of itself: when the last one went, the least time that is not ahead of the noted one (looked for from some on), and what it would tell at a late time.
type state struct {
	next   int
	begun  bool
	noted  int
	answer answer
}

func stateOf(p *pacing.Pace) state {
	s := state{answer: of(p.Look(api.MaxTime, 1))}
	s.next, s.begun = p.Next()
	low, high := 0, api.MaxTime
	for low < high {
		if middle := low + (high-low)/2; of(p.Look(middle, 1)).err == api.ErrBack {
			low = middle + 1
		} else {
			high = middle
		}
	}
	s.noted = low
	return s
}

// P13.1: New takes counts and queues to their limits.
func TestNew(t *testing.T) {
	tests := []struct {
		count, queue int
		err          api.Errno
	}{
		{1, 0, api.OK}, {api.MaxCount, hour, api.OK}, {10, 200000, api.OK}, {1, hour, api.OK},
		{0, 0, api.ErrRange}, {-1, 0, api.ErrRange}, {api.MaxCount + 1, 0, api.ErrRange}, {math.MaxInt, 0, api.ErrRange}, {math.MinInt, 0, api.ErrRange},
		{1, -1, api.ErrRange}, {1, hour + 1, api.ErrRange}, {1, math.MaxInt, api.ErrRange}, {1, math.MinInt, api.ErrRange}, {0, -1, api.ErrRange},
	}
	for _, x := range tests {
		p, err := pacing.New(x.count, x.queue)
		if err != x.err || (p == nil) != (err != api.OK) {
			t.Errorf("New(%d, %d) = %v, %v, want %v", x.count, x.queue, p, err, x.err)
		}
	}
	// Nobody went, and no time was noted.
	if got := stateOf(paceOf(t, 10, 0)); got != (state{answer: waits(0)}) {
		t.Errorf("a new one: %+v", got)
	}
}

// P13.1: Cost is rounded up, and takes both numbers to their limits.
func TestCost(t *testing.T) {
	tests := []struct {
		count, rate, want int
		err               api.Errno
	}{
		{1, 10, 100000, api.OK}, {1, 1, 1000000, api.OK}, {3, 7, 428572, api.OK}, {7, 3, 2333334, api.OK}, {1, 3, 333334, api.OK}, {2, 3, 666667, api.OK},
		{1, 1000000, 1, api.OK}, {1, 1000001, 1, api.OK}, {1, 999999, 2, api.OK}, {1, api.MaxCount, 1, api.OK}, {2000000, 1999999, 1000001, api.OK},
		{api.MaxCount, 1, api.MaxCount * 1000000, api.OK}, {api.MaxCount, api.MaxCount, 1000000, api.OK}, {api.MaxCount - 1, api.MaxCount, 1000000, api.OK},
		{0, 1, 0, api.ErrRange}, {-1, 1, 0, api.ErrRange}, {api.MaxCount + 1, 1, 0, api.ErrRange}, {math.MaxInt, 1, 0, api.ErrRange}, {math.MinInt, 1, 0, api.ErrRange},
		{1, 0, 0, api.ErrRange}, {1, -1, 0, api.ErrRange}, {1, api.MaxCount + 1, 0, api.ErrRange}, {1, math.MaxInt, 0, api.ErrRange}, {1, math.MinInt, 0, api.ErrRange}, {0, 0, 0, api.ErrRange},
	}
	for _, x := range tests {
		if cost, err := pacing.Cost(x.count, x.rate); cost != x.want || err != x.err {
			t.Errorf("Cost(%d, %d) = %d, %v, want %d, %v", x.count, x.rate, cost, err, x.want, x.err)
		}
	}
}

// Chapter 13, example 1, which is DOC.md's 2.
func TestExample(t *testing.T) {
	p := paceOf(t, 10, 200000)
	for i, want := range []answer{waits(0), waits(100000), waits(200000), blocked, blocked} {
		if got := of(p.Look(0, 1)); got != want {
			t.Errorf("Look of %d: %v, want %v", i, got, want)
		}
		if got := of(p.Go(0, 1)); got != want {
			t.Errorf("Go of %d: %v, want %v", i, got, want)
		}
	}
	if next, begun := p.Next(); next != 200000 || !begun {
		t.Errorf("Next = %d, %v", next, begun)
	}
}

// step is a call of Go, or, with a rate, of At; and when the last one went behind it.
type step struct {
	name            string
	at, count, rate int
	want            answer
	next            int
}

func checkSteps(t *testing.T, p *pacing.Pace, steps []step) {
	t.Helper()
	for _, x := range steps {
		var got answer
		if x.rate == 0 {
			got = of(p.Go(x.at, x.count))
		} else {
			got = of(p.At(x.at, x.count, x.rate))
		}
		if got != x.want {
			t.Errorf("%s: %v, want %v", x.name, got, x.want)
		}
		if next, begun := p.Next(); next != x.next || !begun {
			t.Errorf("%s: Next = %d, %v, want %d", x.name, next, begun, x.next)
		}
	}
}

// P13.2: when calls go: by the cost of the one that comes, behind the last one that went, at its own time if that is later.
func TestGo(t *testing.T) {
	checkSteps(t, paceOf(t, 10, 300000), []step{
		{"the first one, of any count, at its own time", 1000, 5000, 0, waits(0), 1000},
		{"its cost behind the first one, whose own is of no account", 1000, 1, 0, waits(100000), 101000},
		{"two tokens", 1000, 2, 0, waits(300000), 301000},
		{"one more, too long", 1000, 1, 0, blocked, 301000},
		{"a microsecond too early", 100999, 1, 0, blocked, 301000},
		{"early enough: all of the queue", 101000, 1, 0, waits(300000), 401000},
		{"a microsecond ahead of its turn", 500999, 1, 0, waits(1), 501000},
		{"at its turn", 601000, 1, 0, waits(0), 601000},
		{"behind its turn: at its own time", 701001, 1, 0, waits(0), 701001},
		{"at that time, it waits all of its cost", 701001, 1, 0, waits(100000), 801001},
		{"at the end of all times", api.MaxTime, 1, 0, waits(0), api.MaxTime},
		{"behind the end of all times", api.MaxTime, 3, 0, waits(300000), api.MaxTime + 300000},
		{"too long behind it", api.MaxTime, 1, 0, blocked, api.MaxTime + 300000},
	})
}

// P13.2: At paces by the rate that it is handed, behind what went by other ones, and changes nothing of the Count.
func TestAt(t *testing.T) {
	checkSteps(t, paceOf(t, 10, 2000000), []step{
		{"the first one", 0, 1, 1, waits(0), 0},
		{"a slow rate", 0, 1, 1, waits(1000000), 1000000},
		{"the Count again", 0, 1, 0, waits(1100000), 1100000},
		{"a fast rate", 0, 1, 3, waits(1433334), 1433334},
		{"a slow one, too long", 0, 1, 1, blocked, 1433334},
		{"the fastest", 0, 1, api.MaxCount, waits(1433335), 1433335},
		{"all tokens at the fastest, too long", 433334, api.MaxCount, api.MaxCount, blocked, 1433335},
		{"a microsecond later", 433335, api.MaxCount, api.MaxCount, waits(2000000), 2433335},
	})
	checkSteps(t, paceOf(t, 10, 0), []step{
		{"the first one", 5, 1, 7, waits(0), 5},
		{"nobody may wait", 5, 1, api.MaxCount, blocked, 5},
		{"a microsecond later, at the fastest", 6, 1, api.MaxCount, waits(0), 6},
		{"a second later, all tokens at the fastest", 1000006, api.MaxCount, api.MaxCount, waits(0), 1000006},
		{"a microsecond too early", 2000005, 1, 1, blocked, 1000006},
		{"at its turn", 2000006, 1, 1, waits(0), 2000006},
	})
}

// P13.2: the greatest costs: all tokens, one a second, of which none comes to its turn but the first.
func TestGreat(t *testing.T) {
	p := paceOf(t, 1, hour)
	if got := of(p.Go(0, api.MaxCount)); got != waits(0) {
		t.Fatalf("the first one: %v", got)
	}
	cost := api.MaxCount * 1000000
	for _, x := range []struct {
		at   int
		want answer
	}{{0, blocked}, {cost - hour - 1, blocked}, {cost - hour, waits(hour)}, {cost, waits(0)}, {api.MaxTime, waits(0)}} {
		if got := of(p.Look(x.at, api.MaxCount)); got != x.want {
			t.Errorf("Look(%d) = %v, want %v", x.at, got, x.want)
		}
	}
	if got := of(p.Go(api.MaxTime, 3600)); got != waits(0) {
		t.Errorf("at the end of all times: %v", got)
	}
	if got := of(p.Go(api.MaxTime, 3600)); got != waits(hour) {
		t.Errorf("all of the queue behind it: %v", got)
	}
	if got := of(p.Look(api.MaxTime, api.MaxCount)); got != blocked {
		t.Errorf("all tokens behind it: %v", got)
	}
}

// P13.2: Look notes nothing: neither the time, nor that somebody went.
func TestLook(t *testing.T) {
	p := paceOf(t, 10, 100000)
	for _, begun := range []bool{false, true} {
		was := stateOf(p)
		if was.begun != begun {
			t.Fatalf("%+v", was)
		}
		for _, at := range []int{5000000, 70, api.MaxTime, 50} {
			p.Look(at, 1)
			p.Look(at, api.MaxCount)
			if got := stateOf(p); got != was {
				t.Fatalf("looked at, at %d, it changes from %+v to %+v", at, was, got)
			}
		}
		p.Go(50, 1)
	}
}

// P13.2: Go and At note the time, whether the call goes or not.
func TestNoted(t *testing.T) {
	p := paceOf(t, 10, 100000)
	calls := []func(at int) answer{
		func(at int) answer { return of(p.Go(at, 1)) },
		func(at int) answer { return of(p.Go(at, 1000)) }, // does not go
		func(at int) answer { return of(p.At(at, 1, 5)) },
		func(at int) answer { return of(p.At(at, 1, 1)) }, // does not go
	}
	for i, call := range calls {
		at := (i + 1) * 500000
		got := call(at)
		if goes := i%2 == 0; got.goes != goes || got.err != api.OK {
			t.Errorf("call %d: %v", i, got)
		}
		for _, early := range []int{at - 1, 0} {
			if got := of(p.Look(early, 1)); got != fails(api.ErrBack) {
				t.Errorf("call %d, Look(%d): %v", i, early, got)
			}
		}
		if got := of(p.Look(at, 1)); got.err != api.OK {
			t.Errorf("call %d, Look at the noted time: %v", i, got)
		}
		if i%2 == 0 {
			p.Go(at, 1) // so that the next call is behind one that went by the Count
		}
	}
}

// P13.2, P2: the errors in their order: ErrRange ahead of ErrBack; nothing changes.
func TestRefused(t *testing.T) {
	p := paceOf(t, 10, 200000)
	p.Go(2000000, 1)
	p.Go(2000000, 1)
	was := stateOf(p)
	tests := []struct {
		at, count, rate int
		err             api.Errno
	}{
		{-1, 1, 1, api.ErrRange}, {math.MinInt, 1, 1, api.ErrRange}, {api.MaxTime + 1, 1, 1, api.ErrRange}, {math.MaxInt, 1, 1, api.ErrRange},
		{2000000, 0, 1, api.ErrRange}, {2000000, -1, 1, api.ErrRange}, {2000000, api.MaxCount + 1, 1, api.ErrRange}, {2000000, math.MaxInt, 1, api.ErrRange}, {2000000, math.MinInt, 1, api.ErrRange},
		{1999999, 0, 1, api.ErrRange}, {0, api.MaxCount + 1, 1, api.ErrRange}, {-1, 0, 1, api.ErrRange},
		{1999999, 1, 1, api.ErrBack}, {0, api.MaxCount, api.MaxCount, api.ErrBack},
		{2000000, 1, 0, api.ErrRange}, {2000000, 1, -1, api.ErrRange}, {2000000, 1, api.MaxCount + 1, api.ErrRange}, {2000000, 1, math.MaxInt, api.ErrRange}, {2000000, 1, math.MinInt, api.ErrRange},
		{1999999, 1, 0, api.ErrRange}, {-1, 0, 0, api.ErrRange},
	}
	for _, x := range tests {
		if got := of(p.At(x.at, x.count, x.rate)); got != fails(x.err) {
			t.Errorf("At(%d, %d, %d) = %v, want %v", x.at, x.count, x.rate, got, x.err)
		}
		if x.rate == 1 {
			if got := of(p.Go(x.at, x.count)); got != fails(x.err) {
				t.Errorf("Go(%d, %d) = %v, want %v", x.at, x.count, got, x.err)
			}
			if got := of(p.Look(x.at, x.count)); got != fails(x.err) {
				t.Errorf("Look(%d, %d) = %v, want %v", x.at, x.count, got, x.err)
			}
		}
		if got := stateOf(p); got != was {
			t.Fatalf("refused at %+v, it changes from %+v to %+v", x, was, got)
		}
	}
}

// P1: a nil one answers ErrNil ahead of all other errors, and else zero values.
func TestNil(t *testing.T) {
	var p *pacing.Pace
	for _, x := range []int{1, 0, -1, math.MaxInt, math.MinInt} {
		for name, got := range map[string]answer{"Look": of(p.Look(x, x)), "Go": of(p.Go(x, x)), "At": of(p.At(x, x, x))} {
			if got != fails(api.ErrNil) {
				t.Errorf("%s(%d) = %v", name, x, got)
			}
		}
	}
	if next, begun := p.Next(); next != 0 || begun || p.Fork() != nil {
		t.Error("a nil one has something")
	}
}

// P13.2: Next of one where nobody went, also when somebody would have waited too long; at 0 somebody may go.
func TestNext(t *testing.T) {
	p := paceOf(t, 1, 0)
	if next, begun := p.Next(); next != 0 || begun {
		t.Errorf("at first: %d, %v", next, begun)
	}
	p.Go(-1, 1)
	p.Go(0, 0)
	if next, begun := p.Next(); next != 0 || begun {
		t.Errorf("behind errors: %d, %v", next, begun)
	}
	p.Go(0, 1)
	if next, begun := p.Next(); next != 0 || !begun {
		t.Errorf("behind one at 0: %d, %v", next, begun)
	}
	p.Go(7, 1)
	if next, begun := p.Next(); next != 0 || !begun {
		t.Errorf("behind one that waits too long: %d, %v", next, begun)
	}
}

// P4: of one and its Fork, what becomes of the one changes nothing of the other.
func TestFork(t *testing.T) {
	p := paceOf(t, 10, 150000)
	p.Go(1000000, 1)
	was := stateOf(p)
	fork := p.Fork()
	if stateOf(fork) != was {
		t.Fatalf("Fork = %+v, want %+v", stateOf(fork), was)
	}
	if got := of(fork.Go(1050000, 2)); got != waits(150000) {
		t.Errorf("the fork: %v", got)
	}
	if stateOf(p) != was || stateOf(fork) == was {
		t.Errorf("the fork went: %+v, %+v, was %+v", stateOf(p), stateOf(fork), was)
	}
	is := stateOf(fork)
	p.At(3000000, 1, 1)
	if stateOf(fork) != is {
		t.Errorf("its fork changes from %+v to %+v", is, stateOf(fork))
	}
	// A fork of a new one has let nobody go either.
	if got := of(paceOf(t, 10, 0).Fork().Go(9, 1000)); got != waits(0) {
		t.Errorf("a fork of a new one: %v", got)
	}
}
