package slots_test

import (
	"testing"

	"spillway/api"
	"spillway/rules"
	"spillway/slots"
)

// P17.2: a flow rule looks at the resource's own node; of an origin, at that origin's; related, at its ref's; in a chain, at the resource's in that context.
func TestNodes(t *testing.T) {
	started := func(r api.Flow) *slots.Engine {
		e := newEngine(t)
		for _, c := range []api.Call{
			callAt(0, tokens(1)),
			callAt(0, from("app1"), tokens(2)),
			callAt(0, from("app2"), inContext("side"), tokens(4)),
			callAt(0, resource("b"), from("app1"), tokens(8)),
			callAt(0, resource("b"), inContext("side"), tokens(16)),
			callAt(0, inContext("side"), tokens(32)),
		} {
			pass(t, e, c)
		}
		load(t, e, flows(r))
		return e
	}
	const much = 1000
	app1, side := from("app1"), inContext("side")
	tests := []struct {
		name   string
		change func(r *api.Flow)
		call   []func(c *api.Call)
		passed int // what it sees
	}{
		{"direct", func(*api.Flow) {}, nil, 39},
		{"direct, of any origin", func(*api.Flow) {}, []func(c *api.Call){from("app1")}, 39},
		{"of an origin", ofOrigin("app1"), []func(c *api.Call){app1}, 2},
		{"of an origin in any context", ofOrigin("app1"), []func(c *api.Call){app1, side}, 2},
		{"of other origins", ofOrigin(api.OtherName), []func(c *api.Call){from("app2")}, 4},
		{"of other origins, one that is new", ofOrigin(api.OtherName), []func(c *api.Call){from("app9")}, 0},
		{"of other origins, of none", ofOrigin(api.OtherName), nil, 39},
		{"related", related(api.Relate, "b"), nil, 24},
		{"related, from an origin", related(api.Relate, "b"), []func(c *api.Call){app1}, 24},
		{"related, of an origin", func(r *api.Flow) { ofOrigin("app1")(r); related(api.Relate, "b")(r) }, []func(c *api.Call){app1}, 24},
		{"related to what is not there", related(api.Relate, "nobody"), nil, 0},
		{"related to itself", related(api.Relate, "a"), nil, 39},
		{"in a chain", related(api.Chain, "main"), nil, 3},
		{"in another chain", related(api.Chain, "side"), []func(c *api.Call){side, app1}, 36},
		{"in a chain, of an origin", func(r *api.Flow) { ofOrigin("app2")(r); related(api.Chain, "side")(r) }, []func(c *api.Call){side, from("app2")}, 36},
	}
	for _, x := range tests {
		r := flowOf(much, x.change)
		t.Log(x.name)
		block(t, started(r), callAt(0, append(x.call, tokens(much-x.passed+1))...), api.ByFlow, 0)
		pass(t, started(r), callAt(0, append(x.call, tokens(much-x.passed))...))
	}
	for name, x := range map[string]struct {
		r api.Flow
		c api.Call
	}{
		"of another origin":             {flowOf(0, ofOrigin("app1")), callAt(0)},
		"of another origin than app2":   {flowOf(0, ofOrigin("app1")), callAt(0, from("app2"))},
		"in another context":            {flowOf(0, related(api.Chain, "side")), callAt(0)},
		"of another resource":           {flowOf(0, ofResource("b")), callAt(0)},
		"of another one, related to it": {flowOf(0, ofResource("b"), related(api.Relate, "a")), callAt(0)},
	} {
		t.Log(name)
		pass(t, started(x.r), x.c)
	}
}

// P17.2: a thread rule counts the entries that are not over at its node, whatever their tokens.
func TestThreads(t *testing.T) {
	e := engineOf(t, flows(flowOf(2, threads), flowOf(1, threads, ofOrigin("app1")), flowOf(1, threads, ofResource("b"), related(api.Relate, "a"))))
	one := pass(t, e, callAt(0, from("app1"), tokens(1000)))
	block(t, e, callAt(0, from("app1")), api.ByFlow, 1)
	block(t, e, callAt(0, resource("b")), api.ByFlow, 2)
	two := pass(t, e, callAt(0))
	block(t, e, callAt(5*second), api.ByFlow, 0)
	block(t, e, callAt(5*second, from("app1")), api.ByFlow, 0)
	exit(t, e, two, 5*second, true)
	block(t, e, callAt(5*second, from("app1")), api.ByFlow, 1)
	pass(t, e, callAt(5*second, from("app2")))
	exit(t, e, one, 5*second, false)
	pass(t, e, callAt(5*second, from("app1")))
	e = engineOf(t, flows(flowOf(0, threads)))
	block(t, e, callAt(0), api.ByFlow, 0)
}

// P17.2: by tokens just as many pass as Count, those of the window at the time, whether their entries are over or not.
func TestReject(t *testing.T) {
	e := engineOf(t, flows(flowOf(10)))
	number := pass(t, e, callAt(99999, tokens(4)))
	block(t, e, callAt(100000, tokens(7)), api.ByFlow, 0)
	pass(t, e, callAt(100000, tokens(6)))
	exit(t, e, number, 100001, false)
	block(t, e, callAt(999999), api.ByFlow, 0)
	block(t, e, callAt(1000000, tokens(5)), api.ByFlow, 0)
	pass(t, e, callAt(1000000, tokens(4)))
	block(t, e, callAt(1099999), api.ByFlow, 0)
	pass(t, e, callAt(1100000, tokens(6)))
	block(t, e, callAt(api.MaxTime, tokens(11)), api.ByFlow, 0)
	pass(t, e, callAt(api.MaxTime, tokens(10)))
}

// P17.2: a warm-up sees what passed in the second, and in the whole second ahead, at its node.
func TestWarmUp(t *testing.T) {
	// Its greatest is 30, its warning 15: with 30 tokens 3 pass, with 29 three, 28: four.
	e := engineOf(t, flows(flowOf(10, warmed(3))))
	block(t, e, callAt(0, tokens(4)), api.ByFlow, 0)
	pass(t, e, callAt(0, tokens(3)))
	block(t, e, callAt(999999), api.ByFlow, 0)
	pass(t, e, callAt(1000000, tokens(3))) // 27 are left: 300 by 78
	block(t, e, callAt(1000000), api.ByFlow, 0)
	block(t, e, callAt(2000000, tokens(5)), api.ByFlow, 0) // 24 are left: 300 by 66
	pass(t, e, callAt(2000000, tokens(4)))
	pass(t, e, callAt(3000000, tokens(5))) // 20 are left: 300 by 50: 6
	pass(t, e, callAt(3000000))
	block(t, e, callAt(3000000), api.ByFlow, 0)
	block(t, e, callAt(4000000, tokens(11)), api.ByFlow, 0)
	pass(t, e, callAt(4000000, tokens(10))) // 14 are left: below the warning
	pass(t, e, callAt(5000000, tokens(10))) // ten come, and ten went
	block(t, e, callAt(5000000), api.ByFlow, 0)
	block(t, e, callAt(9000000, tokens(5)), api.ByFlow, 0) // cold again: forty come, of which none passed
	pass(t, e, callAt(9000000, tokens(3)))
}

// P17.2: a warm-up of an origin sees what that origin did.
func TestWarmUpOfOrigin(t *testing.T) {
	e := engineOf(t, flows(flowOf(10, warmed(3), ofOrigin("app1"))))
	pass(t, e, callAt(0, tokens(1000)))
	pass(t, e, callAt(0, tokens(3), from("app1")))
	block(t, e, callAt(0, from("app1")), api.ByFlow, 0)
	pass(t, e, callAt(0, tokens(1000), from("app2")))
	pass(t, e, callAt(1000000, tokens(3), from("app1")))
	block(t, e, callAt(1000000, from("app1")), api.ByFlow, 0) // 27 are left, not none
}

// P17.2: a pacing rule lets calls go by its count, whatever passed by others; the entries wait.
func TestPace(t *testing.T) {
	e := engineOf(t, flows(flowOf(10, paced(250000), ofOrigin("app1"))))
	pass(t, e, callAt(0, tokens(1000)))
	waits(t, e, callAt(0, from("app1"), tokens(5)), 0)
	block(t, e, callAt(0, from("app1"), tokens(3)), api.ByFlow, 0)
	waits(t, e, callAt(0, from("app1"), tokens(2)), 200000)
	block(t, e, callAt(0, from("app1")), api.ByFlow, 0)
	waits(t, e, callAt(50000, from("app1")), 250000)
	waits(t, e, callAt(350000, from("app1")), 50000)
	waits(t, e, callAt(800000, from("app1")), 0)
}

// P17.2: warm and paced: calls go at the rate that the warm-up tells; one that is blocked fills nothing, and does not go.
func TestWarmPace(t *testing.T) {
	e := engineOf(t, flows(flowOf(10, warmPaced(3, 400000))))
	waits(t, e, callAt(0), 0)
	waits(t, e, callAt(0), 333334) // three a second
	block(t, e, callAt(0), api.ByFlow, 0)
	waits(t, e, callAt(600000), 66668)
	waits(t, e, callAt(1000000), 2)      // 27 are left: still three, from 666668 on
	waits(t, e, callAt(1000000), 333336) // 1333336
	block(t, e, callAt(1000000), api.ByFlow, 0)
	waits(t, e, callAt(1500000), 166670) // 1666670
	block(t, e, callAt(2000000, tokens(3)), api.ByFlow, 0)
	waits(t, e, callAt(2000000), 0)      // 24 are left: four, from 1666670 on
	waits(t, e, callAt(2000000), 250000) // 2250000
	block(t, e, callAt(2000000, tokens(2)), api.ByFlow, 0)
}

// P17.2: a call that passes waits for as long as the longest of its paces says; each of them it takes.
func TestWait(t *testing.T) {
	e := engineOf(t, flows(flowOf(10, paced(second)), flowOf(4, paced(second)), flowOf(5, paced(second)), flowOf(100)))
	waits(t, e, callAt(0), 0)
	waits(t, e, callAt(0), 250000)
	waits(t, e, callAt(0, tokens(2)), 750000)
	block(t, e, callAt(0, tokens(2)), api.ByFlow, 1)
	load(t, e, flows(flowOf(5, paced(second))))
	waits(t, e, callAt(0), 800000) // 200000, and two of them
	load(t, e, flows(flowOf(5, paced(second)), flowOf(10, paced(second))))
	waits(t, e, callAt(0), 1000000)
}

// P17.2: the server's rules are passed over, if the call is granted, or if they have no fallback; else they reject like others.
func TestCluster(t *testing.T) {
	cluster := func(fallback bool, id int) func(r *api.Flow) {
		return func(r *api.Flow) { r.Cluster, r.Id, r.Fallback = true, id, fallback }
	}
	e := engineOf(t, flows(flowOf(0, cluster(false, 1)), flowOf(3, cluster(true, 2)), flowOf(6)))
	enter := func(count int, granted bool, reason api.Reason, rule int) {
		t.Helper()
		number, v, err := e.Enter(callAt(0, tokens(count)), granted)
		if v != (api.Verdict{Reason: reason, Rule: rule}) || (number == 0) != (reason != api.Passed) || err != api.OK {
			t.Errorf("Enter of %d, granted %v: %d, %+v, %v", count, granted, number, v, err)
		}
	}
	enter(4, false, api.ByFlow, 1)
	enter(2, false, api.Passed, 0)
	enter(2, false, api.ByFlow, 1)
	enter(2, true, api.Passed, 0)
	enter(1, false, api.ByFlow, 1)
	enter(3, true, api.ByFlow, 2)
	enter(2, true, api.Passed, 0)
	enter(1, true, api.ByFlow, 2)
	block(t, e, callAt(0), api.ByFlow, 1)
}

// P17.2: an origin's own rule, though it is the server's, is passed over, and other's do not concern it all the same.
func TestClusterOwn(t *testing.T) {
	own := flowOf(0, ofOrigin("app1"), func(r *api.Flow) { r.Cluster, r.Id = true, 1 })
	e := engineOf(t, flows(flowOf(0, ofOrigin(api.OtherName)), own))
	pass(t, e, callAt(0, from("app1")))
	block(t, e, callAt(0, from("app2")), api.ByFlow, 0)
}

// P17.2: what one rule blocks is taken of no other one, neither of those ahead of it nor of those behind: tokens of a value, a turn, a second of a warm-up, a probe.
func TestTakesNothing(t *testing.T) {
	hot := api.Hot{Resource: "a", Count: 1, Seconds: 1}
	late := errorsOf(0)
	late.Recover = 2 * second
	for _, blocker := range []struct {
		r      api.Rules
		reason api.Reason
	}{
		{api.Rules{Lists: []api.Authority{{Resource: "a", Origins: []string{"app1"}}}}, api.ByList},
		{api.Rules{Systems: []api.System{systemOf(0, -1, -1, -1, -1)}}, api.BySystem},
		{api.Rules{Hots: []api.Hot{{Resource: "a", Index: 1, Count: 0, Seconds: 1}}}, api.ByHot},
		{api.Rules{Flows: []api.Flow{flowOf(0)}}, api.ByFlow},
		{api.Rules{Breaks: []api.Break{late}}, api.ByBreaker},
	} {
		r := api.Rules{
			Flows:  []api.Flow{flowOf(1, paced(0)), flowOf(9, warmed(10)), flowOf(1, warmPaced(10, 0))},
			Breaks: []api.Break{errorsOf(0)},
			Hots:   []api.Hot{hot},
		}
		e := engineOf(t, api.Rules{Breaks: append([]api.Break{errorsOf(0)}, blocker.r.Breaks...)})
		exit(t, e, pass(t, e, callAt(0)), 0, true)
		load(t, e, rules.Join(r, blocker.r))
		for at := range 20 {
			_, v, err := e.Entry(callAt(second+at, inbound, from("app1"), args("x", "y")))
			if v.Reason != blocker.reason || err != api.OK {
				t.Fatalf("%+v, %v, want %v", v, err, blocker.reason)
			}
		}
		load(t, e, r)
		number := pass(t, e, callAt(second+30, inbound, from("app1"), args("x", "y")))
		block(t, e, callAt(second+30, args("x")), api.ByHot, 0)
		block(t, e, callAt(second+30, args("y")), api.ByFlow, 0)
		exit(t, e, number, second+30, false)
	}
}
