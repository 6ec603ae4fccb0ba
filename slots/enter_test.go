package slots_test

import (
	"testing"

	"spillway/api"
	"spillway/slots"
)

// Chapter 17, example 1; DOC.md's 1: of twelve calls at 10 a second two are blocked; a second later ten more pass.
func TestExampleFlow(t *testing.T) {
	e := engineOf(t, flows(flowOf(10)))
	for _, at := range []int{0, second} {
		for range 10 {
			pass(t, e, callAt(at))
		}
		block(t, e, callAt(at), api.ByFlow, 0)
		block(t, e, callAt(at+99999), api.ByFlow, 0)
	}
}

// DOC.md's 2: paced calls wait; the fourth is blocked.
func TestExamplePace(t *testing.T) {
	e := engineOf(t, flows(flowOf(10, paced(200000))))
	for _, want := range []int{0, 100000, 200000} {
		waits(t, e, callAt(0), want)
	}
	block(t, e, callAt(0), api.ByFlow, 0)
}

// DOC.md's 3: by a thread rule of 1 the second Entry is blocked until the Exit of the first.
func TestExampleThreads(t *testing.T) {
	e := engineOf(t, flows(flowOf(1, threads)))
	number := pass(t, e, callAt(0, tokens(50)))
	block(t, e, callAt(1), api.ByFlow, 0)
	exit(t, e, number, 2, false)
	pass(t, e, callAt(2, tokens(api.MaxCount)))
}

// DOC.md's 4: cold, 33 a second pass; warm, 100.
func TestExampleWarmUp(t *testing.T) {
	e := engineOf(t, flows(flowOf(100, warmed(10))))
	for s := range 30 {
		n := 0
		for i := range 200 {
			if number, _, _ := e.Entry(callAt(s*second + i)); number != 0 {
				n++
				exit(t, e, number, s*second+i, false)
			}
		}
		if s == 0 && n != 33 || s == 29 && n != 100 || n < 33 || n > 100 {
			t.Errorf("in second %d %d pass", s, n)
		}
	}
}

// DOC.md's 5: behind five entries, three of them with errors, the breaker is open; behind Recover one entry passes; it ends well, and the breaker is closed.
func TestExampleBreaker(t *testing.T) {
	e := engineOf(t, breaks(api.Break{Resource: "a", Grade: api.ErrorRatio, Count: 500, Least: 5, Window: second, Recover: second}))
	for i := range 5 {
		exit(t, e, pass(t, e, callAt(i)), i, i < 3)
	}
	block(t, e, callAt(4), api.ByBreaker, 0)
	block(t, e, callAt(second+3), api.ByBreaker, 0)
	probe := pass(t, e, callAt(second+4))
	block(t, e, callAt(second+4), api.ByBreaker, 0)
	exit(t, e, probe, second+5, false)
	for range 9 {
		pass(t, e, callAt(second+5))
	}
}

// DOC.md's 6: three calls of a, and a hundred of vip.
func TestExampleHot(t *testing.T) {
	e := engineOf(t, hots(api.Hot{Resource: "a", Count: 3, Seconds: 1, Items: []api.Item{{Value: "vip", Count: 100}}}))
	for value, n := range map[string]int{"a": 3, "vip": 100} {
		for range n {
			pass(t, e, callAt(0, args(value)))
		}
		block(t, e, callAt(0, args(value)), api.ByHot, 0)
	}
}

// DOC.md's 7: the load is above its limit, and in flight are more than the greatest bucket's passes times the least time.
func TestExampleBbr(t *testing.T) {
	e := engineOf(t, systems(systemOf(-1, -1, -1, 1000, -1)))
	if err := e.Sample(1500, 0); err != api.OK {
		t.Fatal(err)
	}
	// One entry is in flight: not too many. Two passed in the greatest bucket, the least time is a tenth of a second: two may be in flight.
	first := pass(t, e, callAt(0, inbound))
	second := pass(t, e, callAt(0, inbound))
	block(t, e, callAt(0, inbound), api.BySystem, 0)
	exit(t, e, first, 100000, false)
	pass(t, e, callAt(100000, inbound))
	pass(t, e, callAt(100000, inbound)) // two were in flight
	block(t, e, callAt(100000, inbound), api.BySystem, 0)
	pass(t, e, callAt(100000)) // not from outside
	exit(t, e, second, 100000, false)
	pass(t, e, callAt(100000, inbound))
}

// DOC.md's 8: a white list of app1: an origin app2 is blocked.
func TestExampleList(t *testing.T) {
	e := engineOf(t, api.Rules{Lists: []api.Authority{{Resource: "a", White: true, Origins: []string{"app1"}}}})
	block(t, e, callAt(0, from("app2")), api.ByList, 0)
	pass(t, e, callAt(0, from("app1")))
	pass(t, e, callAt(0))
	pass(t, e, callAt(0, from("app2"), resource("b")))
}

// blocking are rules by all kinds of which a call at 1500000 from bad, from outside, of two tokens, with the argument x, is blocked, by two of each kind, behind one that does not block it.
func blocking() api.Rules {
	list := func(resource string) api.Authority {
		return api.Authority{Resource: resource, Origins: []string{"bad"}}
	}
	hot := func(resource string) api.Hot { return api.Hot{Resource: resource, Count: 1, Seconds: 1} }
	errors := func(count int) api.Break {
		r := errorsOf(count)
		r.Recover = 2 * second
		return r
	}
	return api.Rules{
		Lists:   []api.Authority{list("b"), list("a"), list("a")},
		Systems: []api.System{systemOf(-1, -1, -1, -1, -1), systemOf(2, 1, 0, 0, 0), systemOf(1, -1, -1, -1, -1), systemOf(-1, 0, -1, -1, -1)},
		Hots:    []api.Hot{hot("b"), hot("b"), hot("b"), hot("a"), hot("a")},
		Flows:   []api.Flow{flowOf(1, ofResource("b")), flowOf(2), flowOf(1, ofOrigin("app1")), flowOf(2), flowOf(1), flowOf(0)},
		Breaks:  []api.Break{errors(1), errors(0), errors(0)},
	}
}

// P17.2: a call is looked at slot by slot; the first rule that blocks decides, and its number is that among those of its kind.
func TestOrder(t *testing.T) {
	bad := callAt(1500000, inbound, from("bad"), tokens(2), args("x"))
	r := blocking()
	steps := []struct {
		change func()
		reason api.Reason
		rule   int
	}{
		{func() {}, api.ByList, 1},
		{func() { r.Lists[1].Origins[0] = "other" }, api.ByList, 2},
		{func() { r.Lists = r.Lists[:2] }, api.BySystem, 2},
		{func() { r.Systems[2].Qps = 2 }, api.BySystem, 3},
		{func() { r.Systems[3].Threads = 1 }, api.ByHot, 3},
		{func() { r.Hots[3].Count = 2 }, api.ByHot, 4},
		{func() { r.Hots[4].Count = 2 }, api.ByFlow, 4},
		{func() { r.Flows[4].Count = 2 }, api.ByFlow, 5},
		{func() { r.Flows = r.Flows[:5] }, api.ByBreaker, 1},
		{func() { r.Breaks[1].Count = 1 }, api.ByBreaker, 2},
		{func() { r.Breaks[2].Count = 1 }, api.Passed, 0},
	}
	for _, x := range steps {
		x.change()
		e := engineOf(t, breaks(r.Breaks...))
		exit(t, e, pass(t, e, callAt(0)), 0, true) // trips those breakers that take none
		load(t, e, r)
		if x.reason != api.Passed {
			block(t, e, bad, x.reason, x.rule)
			continue
		}
		pass(t, e, bad)
	}
}

// P17.2: system rules are asked of calls from outside alone, of all resources, by what is so at all of these calls together.
func TestSystem(t *testing.T) {
	started := func(r api.System) *slots.Engine {
		e := newEngine(t)
		exit(t, e, pass(t, e, callAt(0, inbound, tokens(3))), 200, false)
		exit(t, e, pass(t, e, callAt(200, resource("b"), inbound, inContext("side"), from("app1"), tokens(4))), 301, true)
		exit(t, e, pass(t, e, callAt(301, resource("b"), tokens(100))), 90000, false)
		pass(t, e, callAt(90000, inbound))
		pass(t, e, callAt(90000, resource("c")))
		load(t, e, systems(r))
		return e
	}
	none := systemOf(-1, -1, -1, -1, -1)
	tests := []struct {
		name   string
		r      api.System
		count  int
		blocks bool
	}{
		{"none", none, api.MaxCount, false},
		{"qps: 8 passed", systemOf(10, -1, -1, -1, -1), 2, false},
		{"qps: 8 passed, and 3", systemOf(10, -1, -1, -1, -1), 3, true},
		{"threads: 1", systemOf(-1, 2, -1, -1, -1), 1, false},
		{"threads: 1 and this one", systemOf(-1, 1, -1, -1, -1), 1, true},
		{"rt: 301 by 2", systemOf(-1, -1, 150, -1, -1), 1, false},
		{"rt: above 149", systemOf(-1, -1, 149, -1, -1), 1, true},
		{"cpu", systemOf(-1, -1, -1, -1, 0), 1, false},
		{"load", systemOf(-1, -1, -1, 0, -1), 1, false},
	}
	for _, x := range tests {
		e := started(x.r)
		c := callAt(90000, resource("d"), inbound, tokens(x.count))
		if x.blocks {
			block(t, e, c, api.BySystem, 0)
			c.Inbound = false
		}
		t.Log(x.name)
		pass(t, e, c)
	}
}

// P17.2: by the load a call is blocked if too many are in flight: above the greatest bucket, that of the time left out, by the least time in tenths of a second.
func TestSystemLoad(t *testing.T) {
	for _, x := range []struct {
		inFlight int
		blocks   bool
	}{{1, false}, {2, false}, {3, false}, {4, true}} {
		e := newEngine(t)
		var open []int
		for range 6 { // six pass in the bucket of 0, and the least time is half of a bucket: room for three
			open = append(open, pass(t, e, callAt(0, inbound)))
		}
		for i, number := range open {
			exit(t, e, number, 50000+i*10000, false)
		}
		for range x.inFlight {
			pass(t, e, callAt(100000, inbound, tokens(100)))
		}
		load(t, e, systems(systemOf(-1, -1, -1, 0, -1)))
		if err := e.Sample(1, 0); err != api.OK {
			t.Fatal(err)
		}
		if x.blocks {
			block(t, e, callAt(100000, inbound), api.BySystem, 0)
			continue
		}
		pass(t, e, callAt(100000, inbound))
	}
}

// P17.2: lists are asked for the origin, those of the resource alone.
func TestLists(t *testing.T) {
	e := engineOf(t, api.Rules{Lists: []api.Authority{
		{Resource: "b", Origins: []string{"app1"}},
		{Resource: "a", White: true, Origins: []string{"app1", "app2"}},
		{Resource: "a", Origins: []string{"app2"}},
	}})
	pass(t, e, callAt(0, from("app1")))
	block(t, e, callAt(0, from("app2")), api.ByList, 2)
	block(t, e, callAt(0, from("app3")), api.ByList, 1)
	block(t, e, callAt(0, from("app1"), resource("b")), api.ByList, 0)
	pass(t, e, callAt(0, resource("b"), from("app3")))
	pass(t, e, callAt(0))
	pass(t, e, callAt(0, from("app3"), resource("c")))
}

// P17.2: hot rules are asked for their argument, those of the resource, and if the call has so many; each counts its own.
func TestHot(t *testing.T) {
	hot := func(resource string, index, count int) api.Hot {
		return api.Hot{Resource: resource, Index: index, Count: count, Seconds: 1}
	}
	e := engineOf(t, hots(hot("b", 0, 1), hot("a", 2, 4), hot("a", 0, 6), hot("a", 7, 1)))
	pass(t, e, callAt(0, args("x", "x", "y"), tokens(4)))
	block(t, e, callAt(0, args("x", "x", "y")), api.ByHot, 1)
	pass(t, e, callAt(0, args("x", "y", "x"), tokens(2)))
	block(t, e, callAt(0, args("x", "", "z")), api.ByHot, 2)
	block(t, e, callAt(0, args("x")), api.ByHot, 2)
	pass(t, e, callAt(0, args("y", "x")))
	pass(t, e, callAt(0, args("y", "x", "x"), tokens(2)))
	pass(t, e, callAt(0, tokens(100)))
	pass(t, e, callAt(0, args(), tokens(100)))
	pass(t, e, callAt(0, args("1", "2", "3", "4", "5", "6", "7", "last")))
	block(t, e, callAt(0, args("", "2", "3", "4", "5", "6", "7", "last")), api.ByHot, 3)
	pass(t, e, callAt(0, args("x"), resource("b")))
	block(t, e, callAt(0, args("x"), resource("b")), api.ByHot, 0)
	pass(t, e, callAt(0, args("x"), resource("c"), tokens(100)))
}

// P17.2: what is blocked counts as blocked at all nodes of the call, which come with it, and nothing is in flight by it.
func TestBlocked(t *testing.T) {
	e := engineOf(t, flows(flowOf(2), flowOf(0, ofResource("b"))))
	pass(t, e, callAt(0))
	block(t, e, callAt(5, inbound, from("app1"), tokens(3)), api.ByFlow, 0)
	block(t, e, callAt(6, resource("b"), tokens(2)), api.ByFlow, 1)
	for name, want := range map[string]api.Counts{"a": {Pass: 1, Block: 3}, "b": {Block: 2}} {
		if got, err := e.Counts(6, name); got != want || err != api.OK {
			t.Errorf("Counts of %s = %+v, %v, want %+v", name, got, err, want)
		}
	}
	if e.Flight("a") != 1 || e.Flight("b") != 0 || e.Last() != 6 {
		t.Errorf("Flight: %d, %d; Last: %d", e.Flight("a"), e.Flight("b"), e.Last())
	}
	pass(t, e, callAt(6)) // what was blocked does not count for the rule
}
