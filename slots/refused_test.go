package slots_test

import (
	"math"
	"slices"
	"strings"
	"testing"

	"spillway/api"
	"spillway/rules"
	"spillway/slots"
)

// P17.2: the errors in their order: ErrName, ErrRange, ErrLong, ErrBack; nothing changes, by Entry nor by Enter.
func TestEnterRefused(t *testing.T) {
	e := engineOf(t, all())
	pass(t, e, callAt(2000000, args("x"), tokens(2)))
	was := stateOf(e)
	long := strings.Repeat("x", api.MaxName+1)
	many := args(make([]string, api.MaxArgs+1)...)
	tests := []struct {
		c   api.Call
		err api.Errno
	}{
		{callAt(2000000, resource("")), api.ErrName}, {callAt(2000000, resource("a b")), api.ErrName}, {callAt(2000000, resource(long)), api.ErrName},
		{callAt(2000000, inContext("")), api.ErrName}, {callAt(2000000, inContext("\x7f")), api.ErrName}, {callAt(2000000, from("a b")), api.ErrName}, {callAt(2000000, from(long)), api.ErrName},
		{callAt(-1, from(" "), tokens(0), many), api.ErrName},
		{callAt(-1), api.ErrRange}, {callAt(math.MinInt), api.ErrRange}, {callAt(api.MaxTime + 1), api.ErrRange}, {callAt(math.MaxInt), api.ErrRange},
		{callAt(2000000, tokens(0)), api.ErrRange}, {callAt(2000000, tokens(-1)), api.ErrRange}, {callAt(2000000, tokens(api.MaxCount+1)), api.ErrRange}, {callAt(2000000, tokens(math.MaxInt)), api.ErrRange},
		{callAt(0, tokens(0)), api.ErrRange}, {callAt(-1, many), api.ErrRange}, {callAt(2000000, tokens(math.MinInt), args(long)), api.ErrRange},
		{callAt(2000000, many), api.ErrLong}, {callAt(2000000, args(long)), api.ErrLong}, {callAt(2000000, args("", "x", long)), api.ErrLong},
		{callAt(0, many), api.ErrLong}, {callAt(1999999, args(long)), api.ErrLong}, {callAt(2000000, resource("c"), args(make([]string, 1000)...)), api.ErrLong},
		{callAt(1999999), api.ErrBack}, {callAt(0), api.ErrBack}, {callAt(1999999, resource("c"), args(long[1:])), api.ErrBack}, {callAt(1, tokens(api.MaxCount)), api.ErrBack},
	}
	for _, x := range tests {
		for _, granted := range []bool{false, true} {
			if number, v, err := e.Enter(x.c, granted); number != 0 || v != (api.Verdict{}) || err != x.err {
				t.Errorf("Enter(%+v, %v) = %d, %+v, %v, want %v", x.c, granted, number, v, err, x.err)
			}
		}
		if number, v, err := e.Entry(x.c); number != 0 || v != (api.Verdict{}) || err != x.err {
			t.Errorf("Entry(%+v) = %d, %+v, %v, want %v", x.c, number, v, err, x.err)
		}
		if got := stateOf(e); got != was {
			t.Fatalf("Entry(%+v) is refused, and changes\n%s\nto\n%s", x.c, was, got)
		}
	}
	pass(t, e, callAt(2000000, resource("c"), inContext(long[1:]), from(long[1:]), tokens(api.MaxCount), args(slices.Repeat([]string{long[1:]}, api.MaxArgs)...)))
}

// P1: a nil engine answers ErrNil ahead of all other errors, and else zero values.
func TestNil(t *testing.T) {
	var e *slots.Engine
	for _, n := range []int{0, 1, -1, math.MaxInt, math.MinInt} {
		if err := e.Load(flows(flowOf(n))); err != api.ErrNil {
			t.Errorf("Load: %v", err)
		}
		if err := e.Sample(n, n); err != api.ErrNil {
			t.Errorf("Sample: %v", err)
		}
		for _, granted := range []bool{false, true} {
			if number, v, err := e.Enter(callAt(n, tokens(n)), granted); number != 0 || v != (api.Verdict{}) || err != api.ErrNil {
				t.Errorf("Enter: %d, %+v, %v", number, v, err)
			}
		}
		if number, v, err := e.Entry(api.Call{}); number != 0 || v != (api.Verdict{}) || err != api.ErrNil {
			t.Errorf("Entry: %d, %+v, %v", number, v, err)
		}
		if err := e.Exit(n, n, true); err != api.ErrNil {
			t.Errorf("Exit: %v", err)
		}
		if c, err := e.Counts(n, "a"); c != (api.Counts{}) || err != api.ErrNil {
			t.Errorf("Counts: %+v, %v", c, err)
		}
	}
	if r, n := e.Rules(); !rules.Same(r, api.Rules{}) || n != 0 {
		t.Errorf("Rules: %+v, %d", r, n)
	}
	if len(e.Open()) != 0 || e.Flight("a") != 0 || len(e.Resources()) != 0 || e.Last() != 0 || e.Fork() != nil {
		t.Error("a nil engine has something")
	}
}

// P3: a call's arguments stay as they are, and what becomes of them is of no account.
func TestArgsAreTheCallers(t *testing.T) {
	e := engineOf(t, hots(api.Hot{Resource: "a", Count: 1, Seconds: 1}, api.Hot{Resource: "a", Index: 1, Count: 1, Seconds: 1}))
	room := []string{"x", "y", "spare"}
	number := pass(t, e, callAt(0, args(room[:2]...)))
	if !slices.Equal(room, []string{"x", "y", "spare"}) {
		t.Errorf("the arguments became %q", room)
	}
	room[0], room[1] = "u", "v"
	block(t, e, callAt(0, args("x")), api.ByHot, 0)
	block(t, e, callAt(0, args("w", "y")), api.ByHot, 1)
	pass(t, e, callAt(0, args(room...)))
	exit(t, e, number, 0, false)
}

// P3: what Open and Resources answer is the caller's.
func TestAnswersAreTheCallers(t *testing.T) {
	e := newEngine(t)
	pass(t, e, callAt(0))
	pass(t, e, callAt(0, resource("b")))
	was := stateOf(e)
	open, names := e.Open(), e.Resources()
	open2, names2 := e.Open(), e.Resources()
	open[0], names[0] = 9, "c"
	if !slices.Equal(open2, []int{1, 2}) || !slices.Equal(names2, []string{"a", "b"}) {
		t.Error("another answer changed")
	}
	if got := stateOf(e); got != was {
		t.Errorf("when answers changed:\n%s\nwas\n%s", got, was)
	}
}

// P4: of an engine and its Fork, what becomes of the one changes nothing of the other one: rules, states, nodes, samples, entries, numbers.
func TestFork(t *testing.T) {
	started := func() *slots.Engine {
		e := engineOf(t, api.Rules{
			Flows:   []api.Flow{flowOf(10, paced(300000)), flowOf(100, ofResource("b"), warmed(3)), flowOf(3, ofResource("b"), threads)},
			Breaks:  []api.Break{errorsOf(1)},
			Hots:    []api.Hot{{Resource: "a", Count: 5, Seconds: 1}},
			Systems: []api.System{systemOf(-1, -1, -1, -1, 10)},
		})
		pass(t, e, callAt(5, inbound, args("x")))
		pass(t, e, callAt(5, resource("b"), from("app1")))
		exit(t, e, pass(t, e, callAt(5)), 5, true)
		return e
	}
	changes := map[string]func(e *slots.Engine){
		"Load":           func(e *slots.Engine) { load(t, e, flows(flowOf(1))) },
		"Sample":         func(e *slots.Engine) { e.Sample(0, 11) },
		"a call of a":    func(e *slots.Engine) { pass(t, e, callAt(5, args("x"))) },
		"a call of b":    func(e *slots.Engine) { pass(t, e, callAt(second, resource("b"))) },
		"a blocked call": func(e *slots.Engine) { block(t, e, callAt(5, tokens(6), args("x")), api.ByHot, 0) },
		"an end":         func(e *slots.Engine) { exit(t, e, 1, 6, false) },
		"a bad end":      func(e *slots.Engine) { exit(t, e, 1, 5, true) },
		"a new resource": func(e *slots.Engine) { pass(t, e, callAt(5, resource("c"))) },
	}
	was := stateOf(started())
	for name, change := range changes {
		e := started()
		fork := e.Fork()
		if stateOf(fork) != was || stateOf(e) != was {
			t.Fatalf("Fork: %s, want %s", stateOf(fork), was)
		}
		change(fork)
		is := stateOf(fork)
		if got := stateOf(e); got != was || is == was {
			t.Errorf("%s of the fork: %s, was %s", name, got, was)
		}
		change(e)
		if got := stateOf(fork); got != is || stateOf(e) != is {
			t.Errorf("%s of both: %s, %s, want %s", name, stateOf(e), got, is)
		}
	}
}
