package slots_test

import (
	"fmt"
	"math"
	"slices"
	"testing"

	"spillway/api"
	"spillway/slots"
)

// P17.3: the errors in their order: ErrTicket, ErrDone, ErrRange, ErrBack; nothing changes.
func TestExitRefused(t *testing.T) {
	e := engineOf(t, breaks(errorsOf(1)))
	over := pass(t, e, callAt(10, args("x")))
	open := pass(t, e, callAt(20))
	exit(t, e, over, 30, true)
	was := stateOf(e)
	tests := []struct {
		number, at int
		err        api.Errno
	}{
		{0, 30, api.ErrTicket}, {-1, 30, api.ErrTicket}, {open + 1, 30, api.ErrTicket}, {math.MaxInt, -1, api.ErrTicket}, {math.MinInt, 0, api.ErrTicket},
		{over, 30, api.ErrDone}, {over, -1, api.ErrDone}, {over, 0, api.ErrDone}, {over, math.MaxInt, api.ErrDone},
		{open, -1, api.ErrRange}, {open, math.MinInt, api.ErrRange}, {open, api.MaxTime + 1, api.ErrRange}, {open, math.MaxInt, api.ErrRange},
		{open, 29, api.ErrBack}, {open, 20, api.ErrBack}, {open, 0, api.ErrBack},
	}
	for _, x := range tests {
		for _, failed := range []bool{false, true} {
			if err := e.Exit(x.number, x.at, failed); err != x.err {
				t.Errorf("Exit(%d, %d, %v) = %v, want %v", x.number, x.at, failed, err, x.err)
			}
			if got := stateOf(e); got != was {
				t.Fatalf("Exit(%d, %d, %v) is refused, and changes\n%s\nto\n%s", x.number, x.at, failed, was, got)
			}
		}
	}
	exit(t, e, open, 30, true)
	for _, number := range []int{over, open} {
		if err := e.Exit(number, 40, false); err != api.ErrDone {
			t.Errorf("Exit of %d, which is over: %v", number, err)
		}
	}
}

// P17.3: an entry's end is noted at its nodes: it took the time from its call's, though it waited, and may have failed.
func TestExit(t *testing.T) {
	e := engineOf(t, flows(flowOf(10, paced(second))))
	one, two := pass(t, e, callAt(100)), pass(t, e, callAt(200, inbound, from("app1"), tokens(5)))
	exit(t, e, two, 500250, true)
	want := api.Counts{Pass: 6, Done: 1, Errors: 1, RtSum: 500050, MinRt: 500050}
	if got, err := e.Counts(500250, "a"); got != want || err != api.OK || e.Flight("a") != 1 {
		t.Errorf("Counts = %+v, %v, want %+v; Flight = %d", got, err, want, e.Flight("a"))
	}
	exit(t, e, one, 500250, false)
	want.Done, want.RtSum = 2, 1000200
	if got, err := e.Counts(500250, "a"); got != want || err != api.OK || e.Flight("a") != 0 {
		t.Errorf("Counts = %+v, %v, want %+v; Flight = %d", got, err, want, e.Flight("a"))
	}
	zero := pass(t, e, callAt(api.MaxTime))
	exit(t, e, zero, api.MaxTime, false)
	first := newEngine(t)
	exit(t, first, pass(t, first, callAt(0)), api.MaxTime, false)
	if got, _ := first.Counts(api.MaxTime, "a"); got.RtSum != api.MaxTime {
		t.Errorf("from the first time to the last one it took %d", got.RtSum)
	}
}

// P17.3: an entry's end is noted at all nodes of its call, so that rules of an origin, a context and of all calls from outside see it.
func TestExitAtAllNodes(t *testing.T) {
	r := api.Rules{
		Flows:   []api.Flow{flowOf(1, threads, ofOrigin("app1")), flowOf(1, threads, related(api.Chain, "side"))},
		Systems: []api.System{systemOf(-1, 1, -1, -1, -1)},
	}
	for _, x := range []struct {
		one, other api.Call
		reason     api.Reason
		rule       int
	}{
		{callAt(0, from("app1")), callAt(1, from("app1"), inContext("any")), api.ByFlow, 0},
		{callAt(0, inContext("side")), callAt(1, inContext("side"), from("app2")), api.ByFlow, 1},
		{callAt(0, inbound), callAt(1, inbound, resource("b"), inContext("any")), api.BySystem, 0},
	} {
		e := engineOf(t, r)
		number := pass(t, e, x.one)
		block(t, e, x.other, x.reason, x.rule)
		exit(t, e, number, 1, false)
		pass(t, e, x.other)
	}
}

// P17.3: each breaker of the entry's resource is told of its end, as the rules are then; those of other resources are not.
func TestExitTellsBreakers(t *testing.T) {
	slow := api.Break{Resource: "a", Grade: api.SlowRatio, Count: 0, Slow: 1000, Least: 1, Window: second, Recover: second}
	other := errorsOf(0)
	other.Resource = "b"
	tests := []struct {
		name   string
		took   int
		failed bool
		blocks int // the number of the rule; 9: none
	}{
		{"well and fast", 1000, false, 9},
		{"with an error", 1000, true, 1},
		{"slow", 1001, false, 2},
		{"both", 1001, true, 1},
	}
	for _, x := range tests {
		e := engineOf(t, breaks(errorsOf(5)))
		number := pass(t, e, callAt(100))
		load(t, e, breaks(other, errorsOf(0), slow))
		exit(t, e, number, 100+x.took, x.failed)
		c := callAt(100 + x.took)
		t.Log(x.name)
		if x.blocks == 9 {
			pass(t, e, c)
		} else {
			block(t, e, c, api.ByBreaker, x.blocks)
		}
		c.Resource = "b"
		pass(t, e, c)
	}
	// Rules that went by then are not told; when they come again, they begin.
	e := engineOf(t, breaks(errorsOf(0)))
	number := pass(t, e, callAt(0))
	load(t, e, api.Rules{})
	exit(t, e, number, 0, true)
	load(t, e, breaks(errorsOf(0)))
	pass(t, e, callAt(0))
}

// halfOpen is an engine by some breakers, all of which tripped at 0 and have a probe since a second later: its number.
func halfOpen(t *testing.T, l ...api.Break) (*slots.Engine, int) {
	t.Helper()
	e := engineOf(t, breaks(l...))
	exit(t, e, pass(t, e, callAt(0)), 0, true)
	block(t, e, callAt(second-1), api.ByBreaker, 0)
	return e, pass(t, e, callAt(second))
}

// P17.3, P17.8: the probe's end decides, and no other one's does.
func TestProbe(t *testing.T) {
	for _, failed := range []bool{false, true} {
		e := engineOf(t, breaks(errorsOf(0)))
		early := pass(t, e, callAt(0))
		early2 := pass(t, e, callAt(0))
		exit(t, e, pass(t, e, callAt(0)), 5, true)
		exit(t, e, early, second+4, !failed)
		probe := pass(t, e, callAt(second+5))
		block(t, e, callAt(3*second), api.ByBreaker, 0)
		exit(t, e, early2, 3*second, !failed)
		block(t, e, callAt(3*second), api.ByBreaker, 0)
		exit(t, e, probe, 4*second, failed)
		if !failed {
			pass(t, e, callAt(4*second))
			continue
		}
		block(t, e, callAt(5*second-1), api.ByBreaker, 0)
		pass(t, e, callAt(5*second))
		block(t, e, callAt(5*second), api.ByBreaker, 0)
	}
}

// P17.3: an entry may be the probe of several breakers, and of each its end decides; of a breaker whose probe it is not it counts like others.
func TestProbeOfSome(t *testing.T) {
	two := errorsOf(0)
	two.Recover = 2 * second
	e, probe := halfOpen(t, errorsOf(0), errorsOf(0))
	exit(t, e, probe, second, false)
	next := pass(t, e, callAt(second))
	load(t, e, breaks(errorsOf(0), errorsOf(0), two))
	exit(t, e, next, second, true)
	block(t, e, callAt(2*second), api.ByBreaker, 2) // the first ones would let it pass, and have no probe by it
	probe = pass(t, e, callAt(3*second))
	for _, i := range []int{1, 2, 3} {
		fork := e.Fork()
		load(t, fork, breaks(slices.Concat([]api.Break{errorsOf(1)}, []api.Break{errorsOf(0), errorsOf(0), two}[:i])...))
		block(t, fork, callAt(4*second), api.ByBreaker, 1)
		exit(t, fork, probe, 4*second, false)
		pass(t, fork, callAt(4*second))
	}
	exit(t, e, probe, 4*second, true)
	block(t, e, callAt(5*second-1), api.ByBreaker, 0)
	block(t, e, callAt(6*second-1), api.ByBreaker, 2)
	pass(t, e, callAt(6*second))
}

// P17.1, P17.3: a probe is its breaker's as long as the state of that is kept; of one that began since its end is one like others.
func TestProbeOfBreakerThatWent(t *testing.T) {
	e, probe := halfOpen(t, errorsOf(0))
	load(t, e, api.Rules{})
	load(t, e, breaks(errorsOf(0)))
	fork := e.Fork()
	exit(t, e, probe, second, true) // a closed one counts it
	block(t, e, callAt(second), api.ByBreaker, 0)
	// And a breaker that is half open by another probe is not closed by it.
	exit(t, fork, pass(t, fork, callAt(second)), second, true)
	another := pass(t, fork, callAt(2*second))
	exit(t, fork, probe, 2*second, false)
	block(t, fork, callAt(2*second), api.ByBreaker, 0)
	exit(t, fork, another, 2*second, false)
	pass(t, fork, callAt(2*second))
}

// P17.3, P4: in a Fork the entry is the probe of the Fork's breaker.
func TestProbeOfFork(t *testing.T) {
	e, probe := halfOpen(t, errorsOf(0))
	fork := e.Fork()
	exit(t, fork, probe, second, false)
	pass(t, fork, callAt(second))
	block(t, e, callAt(second), api.ByBreaker, 0)
	exit(t, e, probe, second, true)
	block(t, e, callAt(second), api.ByBreaker, 0)
	pass(t, fork, callAt(second))
}

// P17.2: ErrFull, if MaxEntries entries are not over, be they of one resource or of many; blocked ones and those that are over do not count.
func TestFull(t *testing.T) {
	for _, many := range []int{1, 100} {
		e := engineOf(t, flows(flowOf(0, ofResource("no"))))
		block(t, e, callAt(0, resource("no")), api.ByFlow, 0)
		exit(t, e, pass(t, e, callAt(0)), 0, false)
		for i := range api.MaxEntries {
			pass(t, e, callAt(i, resource(fmt.Sprint("r", i%many)), inbound))
		}
		was := stateOf(e)
		for _, c := range []api.Call{callAt(api.MaxEntries, resource("r0")), callAt(api.MaxEntries, resource("new")), callAt(api.MaxEntries, resource("no"))} {
			if number, v, err := e.Entry(c); number != 0 || v != (api.Verdict{}) || err != api.ErrFull {
				t.Errorf("one more: %d, %+v, %v", number, v, err)
			}
		}
		if got := stateOf(e); got != was {
			t.Error("one more is refused, and changes something")
		}
		if _, _, err := e.Entry(callAt(0)); err != api.ErrBack {
			t.Errorf("one more, and ahead: %v", err)
		}
		exit(t, e, 2, api.MaxEntries, false)
		if got := pass(t, e, callAt(api.MaxEntries, resource("r0"))); got != api.MaxEntries+2 {
			t.Errorf("the number %d", got)
		}
	}
}

// P17.2: ErrFull, if the tree would have more than MaxNodes nodes: no node comes, and no time is noted; calls whose nodes are there pass.
func TestFullTree(t *testing.T) {
	e := newEngine(t)
	for i := range api.MaxNodes/2 - 1 { // one of the context, and two of each resource
		pass(t, e, callAt(i, resource(fmt.Sprint("r", i))))
	}
	was := stateOf(e)
	for _, c := range []api.Call{callAt(600, resource("new")), callAt(600, resource("r0"), from("app1"), inbound), callAt(600, inContext("new"), resource("r1"))} {
		if number, v, err := e.Entry(c); number != 0 || v != (api.Verdict{}) || err != api.ErrFull {
			t.Errorf("%+v: %d, %+v, %v", c, number, v, err)
		}
	}
	if got := stateOf(e); got != was {
		t.Error("calls are refused, and change something")
	}
	pass(t, e, callAt(600, resource("r0"), from("app1")))
	if _, _, err := e.Entry(callAt(600, resource("r1"), from("app1"))); err != api.ErrFull {
		t.Errorf("one node more: %v", err)
	}
	pass(t, e, callAt(600, resource("r5")))
}
