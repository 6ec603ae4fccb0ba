package slots_test

import (
	"fmt"
	"math/rand"
	"slices"
	"testing"

	"spillway/api"
	"spillway/slots"
)

// P17.5, E1: of a flow rule that rejects by tokens, the only one, no more pass in any nine tenths of a second than its Count, however calls come.
func TestNeverTooFast(t *testing.T) {
	for seed := range 30 {
		r := rand.New(rand.NewSource(int64(seed)))
		count := 1 + r.Intn(30)
		e := engineOf(t, flows(flowOf(count)))
		var passed []api.Call
		at, full := 0, 0
		for range 600 {
			at = pick(r, at, at+r.Intn(30000), at+r.Intn(30000), at/tenth*tenth+tenth-1, at/tenth*tenth+tenth, at+r.Intn(second))
			c := callAt(at, inContext(pick(r, "main", "side")), from(pick(r, "", "app1")), tokens(1+r.Intn(4)))
			number, v, err := e.Entry(c)
			if err != api.OK {
				t.Fatal(err)
			}
			if v.Reason == api.Passed {
				passed = append(passed, c)
				if r.Intn(2) == 0 {
					exit(t, e, number, at, false)
				}
			}
			sum := 0
			for _, c := range passed {
				if c.At > at-9*tenth {
					sum += c.Count
				}
			}
			if sum > count {
				t.Fatalf("seed %d: %d pass in nine tenths of a second up to %d, of %d", seed, sum, at, count)
			}
			if sum == count {
				full++
			}
		}
		if full < 20 {
			t.Errorf("seed %d: all of the count passed %d times", seed, full)
		}
	}
}

// P17.6, E3: by thread rules never more entries of a node are open than the count of one that looks there.
func TestNeverTooMany(t *testing.T) {
	for seed := range 30 {
		r := rand.New(rand.NewSource(int64(seed)))
		all, own, chain := 2+r.Intn(8), 1+r.Intn(3), 1+r.Intn(4)
		e := engineOf(t, flows(flowOf(all, threads), flowOf(own, threads, ofOrigin("app1")), flowOf(chain, threads, related(api.Chain, "side"))))
		open := map[int]api.Call{}
		full := 0
		for at := range 500 {
			if numbers := e.Open(); len(numbers) > 0 && r.Intn(3) == 0 {
				number := pick(r, numbers...)
				exit(t, e, number, at, r.Intn(2) == 0)
				delete(open, number)
			}
			c := callAt(at, inContext(pick(r, "main", "side")), from(pick(r, "", "app1", "app2")), tokens(1+r.Intn(1000)))
			if number, v, _ := e.Entry(c); v.Reason == api.Passed {
				open[number] = c
			}
			apps, sides := 0, 0
			for _, c := range open {
				if c.Origin == "app1" {
					apps++
				}
				if c.Context == "side" {
					sides++
				}
			}
			if len(open) > all || apps > own || sides > chain || e.Flight("a") != len(open) {
				t.Fatalf("seed %d: %d are open (Flight %d) of %d, %d of %d, %d of %d", seed, len(open), e.Flight("a"), all, apps, own, sides, chain)
			}
			if len(open) == all {
				full++
			}
		}
		if full < 20 {
			t.Errorf("seed %d: as many as may be open were so %d times", seed, full)
		}
	}
}

// refuse lets an engine have calls, at a time, that have an error, or are blocked.
func refuse(r *rand.Rand, e *slots.Engine, at int) {
	for range 5 {
		c := anyCall(r, at)
		switch r.Intn(6) {
		case 0:
			c.Count = 0
		case 1:
			c.Resource = "a b"
		case 2:
			c.Args = make([]string, 9)
		case 3:
			c.At = e.Last() - 1
		}
		_, v, err := e.Fork().Entry(c)
		if v.Reason != api.Passed || err != api.OK {
			e.Entry(c)
		}
	}
	e.Exit(0, at, true)
	e.Exit(-at, at, false)
}

// P17.7, E5: whatever calls are refused or blocked between them, others are decided alike.
func TestRefusedChangesNothing(t *testing.T) {
	blocked := 0
	for seed := range 60 {
		r := rand.New(rand.NewSource(int64(seed)))
		e, other := newEngine(t), newEngine(t)
		all := anyRules(r)
		load(t, e, all)
		load(t, other, all)
		at := 0
		for range 200 {
			at = later(r, at)
			refuse(r, other, at)
			if open := e.Open(); len(open) > 0 && r.Intn(3) == 0 {
				number, failed := pick(r, open...), r.Intn(2) == 0
				exit(t, e, number, at, failed)
				exit(t, other, number, at, failed)
			}
			c, granted := anyCall(r, at), r.Intn(4) == 0
			number, v, err := e.Enter(c, granted)
			number2, v2, err2 := other.Enter(c, granted)
			if number != number2 || v != v2 || err != api.OK || err2 != api.OK {
				t.Fatalf("seed %d: Enter(%+v) = %d, %+v, %v; behind refused calls %d, %+v, %v\nby %+v", seed, c, number, v, err, number2, v2, err2, all)
			}
			if v.Reason != api.Passed {
				blocked++
			}
		}
		if got := other.Open(); !slices.Equal(got, e.Open()) {
			t.Errorf("seed %d: Open = %v, %v", seed, got, e.Open())
		}
	}
	if blocked < 1000 {
		t.Errorf("%d calls are blocked", blocked)
	}
}

// P17.7, E5: the same script comes to the same.
func TestSameScript(t *testing.T) {
	run := func() string {
		r := rand.New(rand.NewSource(3))
		e := engineOf(t, anyRules(r))
		at := 0
		told := ""
		for range 300 {
			at = later(r, at)
			told += fmt.Sprintln(e.Enter(anyCall(r, at), r.Intn(2) == 0))
			if open := e.Open(); len(open) > 0 && r.Intn(2) == 0 {
				told += fmt.Sprintln(e.Exit(pick(r, open...), at, r.Intn(2) == 0))
			}
		}
		return told + stateOf(e)
	}
	first := run()
	for range 5 {
		if run() != first {
			t.Fatal("the same script comes to something else")
		}
	}
}

// watched is a breaker of errors as it must be: until when it is open (-1: it is closed), and the entry that is its probe.
type watched struct {
	api.Break
	until, probe int
	bad          []int // when entries ended badly, while it was closed
	trips        int
}

func (w *watched) trip(at int) {
	w.until, w.probe, w.bad = at+w.Recover, 0, nil
	w.trips++
}

func (w *watched) end(number, at int, failed bool) {
	switch {
	case number == w.probe && failed:
		w.trip(at)
	case number == w.probe:
		w.until, w.probe = -1, 0
	case w.until < 0 && failed:
		w.bad = append(w.bad, at)
		w.bad = slices.DeleteFunc(w.bad, func(ahead int) bool { return ahead/w.Window < at/w.Window })
		if len(w.bad) > w.Count {
			w.trip(at)
		}
	}
}

// P17.8, E4: an open breaker lets nothing enter ahead of its time; then one, till that is over; its end decides.
func TestOpenBreaker(t *testing.T) {
	for seed := range 40 {
		r := rand.New(rand.NewSource(int64(seed)))
		rule := errorsOf(r.Intn(3))
		rule.Recover = second + r.Intn(second)
		w := &watched{Break: rule, until: -1}
		e := engineOf(t, breaks(rule))
		at := 0
		for range 400 {
			at = pick(r, at, at+r.Intn(50000), at+r.Intn(50000), max(at, w.until-1), max(at, w.until))
			if open := e.Open(); len(open) > 0 && r.Intn(2) == 0 {
				number, failed := pick(r, open...), r.Intn(2) == 0
				exit(t, e, number, at, failed)
				w.end(number, at, failed)
			}
			number, v, err := e.Entry(callAt(at))
			passes := w.until < 0 || w.probe == 0 && at >= w.until
			if (v.Reason == api.Passed) != passes || err != api.OK {
				t.Fatalf("seed %d: at %d, until %d, with the probe %d: %+v, %v", seed, at, w.until, w.probe, v, err)
			}
			if passes && w.until >= 0 {
				w.probe = number
			}
		}
		if w.trips < 5 {
			t.Errorf("seed %d: %d trips", seed, w.trips)
		}
	}
}

// E2: of two calls that a pacing rule lets pass the later one goes at least its cost behind, and none waits longer than the queue.
func TestPaced(t *testing.T) {
	for seed := range 20 {
		r := rand.New(rand.NewSource(int64(seed)))
		count, queue := 1+r.Intn(50), r.Intn(second)
		e := engineOf(t, flows(flowOf(count, paced(queue))))
		at, went := 0, -100*second
		for range 300 {
			at += r.Intn(2 * second / count)
			n := 1 + r.Intn(3)
			_, v, err := e.Entry(callAt(at, tokens(n)))
			if err != api.OK || v.Reason != api.Passed {
				continue
			}
			if v.Wait > queue || at+v.Wait < went+(n*second+count-1)/count {
				t.Fatalf("seed %d: at %d it waits %d, of %d; the last one went at %d", seed, at, v.Wait, queue, went)
			}
			went = at + v.Wait
		}
	}
}
