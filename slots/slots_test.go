package slots_test

import (
	"fmt"
	"math"
	"slices"
	"strings"
	"testing"

	"spillway/api"
	"spillway/rules"
	"spillway/slots"
)

const second = api.Second

func newEngine(t *testing.T) *slots.Engine {
	t.Helper()
	e, err := slots.New(100, 1)
	if err != api.OK || e == nil {
		t.Fatalf("New(100, 1) = %v, %v", e, err)
	}
	return e
}

func load(t *testing.T, e *slots.Engine, r api.Rules) {
	t.Helper()
	if err := e.Load(r); err != api.OK {
		t.Fatalf("Load(%+v): %v", r, err)
	}
}

func engineOf(t *testing.T, r api.Rules) *slots.Engine {
	t.Helper()
	e := newEngine(t)
	load(t, e, r)
	return e
}

// flows, breaks and hots are rules of one kind alone.
func flows(l ...api.Flow) api.Rules { return api.Rules{Flows: l} }

func breaks(l ...api.Break) api.Rules { return api.Rules{Breaks: l} }

func hots(l ...api.Hot) api.Rules { return api.Rules{Hots: l} }

func systems(l ...api.System) api.Rules { return api.Rules{Systems: l} }

func systemOf(qps, threads, rt, load, cpu int) api.System {
	return api.System{Qps: qps, Threads: threads, Rt: rt, Load: load, Cpu: cpu}
}

// flowOf is a flow rule of a, for all origins, that rejects; the changes make another one of it.
func flowOf(count int, changes ...func(r *api.Flow)) api.Flow {
	r := api.Flow{Resource: "a", Origin: api.DefaultName, Count: count}
	for _, change := range changes {
		change(&r)
	}
	return r
}

func threads(r *api.Flow) { r.Threads = true }

func paced(queue int) func(r *api.Flow) {
	return func(r *api.Flow) { r.Shape, r.Queue = api.Pace, queue }
}

func warmed(seconds int) func(r *api.Flow) {
	return func(r *api.Flow) { r.Shape, r.Warm = api.WarmUp, seconds }
}

func warmPaced(seconds, queue int) func(r *api.Flow) {
	return func(r *api.Flow) { r.Shape, r.Warm, r.Queue = api.WarmPace, seconds, queue }
}

func ofResource(name string) func(r *api.Flow) { return func(r *api.Flow) { r.Resource = name } }

func ofOrigin(name string) func(r *api.Flow) { return func(r *api.Flow) { r.Origin = name } }

func related(s api.Strategy, ref string) func(r *api.Flow) {
	return func(r *api.Flow) { r.Strategy, r.Ref = s, ref }
}

// errorsOf is a breaker of a that opens when more than so many entries of a second failed.
func errorsOf(count int) api.Break {
	return api.Break{Resource: "a", Grade: api.ErrorCount, Count: count, Least: 1, Window: second, Recover: second}
}

// callAt is a call of a, in main, of no origin, for one token; the changes make another one of it.
func callAt(at int, changes ...func(c *api.Call)) api.Call {
	c := api.Call{At: at, Resource: "a", Context: "main", Count: 1}
	for _, change := range changes {
		change(&c)
	}
	return c
}

func resource(name string) func(c *api.Call) { return func(c *api.Call) { c.Resource = name } }

func inContext(name string) func(c *api.Call) { return func(c *api.Call) { c.Context = name } }

func from(origin string) func(c *api.Call) { return func(c *api.Call) { c.Origin = origin } }

func tokens(n int) func(c *api.Call) { return func(c *api.Call) { c.Count = n } }

func args(l ...string) func(c *api.Call) { return func(c *api.Call) { c.Args = l } }

func inbound(c *api.Call) { c.Inbound = true }

// pass lets a call enter that must pass: its number.
func pass(t *testing.T, e *slots.Engine, c api.Call) int {
	t.Helper()
	number, v, err := e.Entry(c)
	if number == 0 || v.Reason != api.Passed || v.Rule != 0 || err != api.OK {
		t.Fatalf("Entry(%+v) = %d, %+v, %v, which should pass", c, number, v, err)
	}
	return number
}

// waits holds how long a call waits that passes.
func waits(t *testing.T, e *slots.Engine, c api.Call, want int) {
	t.Helper()
	if number, v, err := e.Entry(c); number == 0 || v != (api.Verdict{Wait: want}) || err != api.OK {
		t.Errorf("Entry(%+v) = %d, %+v, %v, want a wait of %d", c, number, v, err, want)
	}
}

// block lets a call enter that must be blocked, by that rule.
func block(t *testing.T, e *slots.Engine, c api.Call, reason api.Reason, rule int) {
	t.Helper()
	if number, v, err := e.Entry(c); number != 0 || v != (api.Verdict{Reason: reason, Rule: rule}) || err != api.OK {
		t.Errorf("Entry(%+v) = %d, %+v, %v, which %v, %d should block", c, number, v, err, reason, rule)
	}
}

func exit(t *testing.T, e *slots.Engine, number, at int, failed bool) {
	t.Helper()
	if err := e.Exit(number, at, failed); err != api.OK {
		t.Fatalf("Exit(%d, %d, %v): %v", number, at, failed, err)
	}
}

// stateOf is all that an engine tells, and what would become of some calls a while later.
func stateOf(e *slots.Engine) string {
	var b strings.Builder
	r, n := e.Rules()
	fmt.Fprintln(&b, r, n, e.Open(), e.Resources(), e.Last())
	for _, name := range []string{"a", "b", "nobody"} {
		c, err := e.Counts(e.Last(), name)
		fmt.Fprintln(&b, name, c, err, e.Flight(name))
	}
	for _, later := range []int{0, second / 10, second, 20 * second} {
		if fork := e.Fork(); fork.Last() <= api.MaxTime-later {
			for range 3 {
				fmt.Fprintln(&b, fmt.Sprint(fork.Entry(callAt(e.Last()+later, inbound, args("x", "y")))))
				fmt.Fprintln(&b, fmt.Sprint(fork.Entry(callAt(e.Last()+later, resource("b"), from("app1")))))
			}
		}
	}
	return b.String()
}

// P17.1: New has ErrRange, unless keys may be; else there are no rules and no entries, at no time.
func TestNew(t *testing.T) {
	for keys, want := range map[int]api.Errno{
		1: api.OK, 2: api.OK, api.MaxKeys: api.OK,
		0: api.ErrRange, -1: api.ErrRange, api.MaxKeys + 1: api.ErrRange, math.MaxInt: api.ErrRange, math.MinInt: api.ErrRange,
	} {
		e, err := slots.New(keys, 7)
		if err != want || (e == nil) != (want != api.OK) {
			t.Errorf("New(%d) = %v, %v, want %v", keys, e, err, want)
		}
		if want != api.OK {
			continue
		}
		if r, n := e.Rules(); !rules.Same(r, api.Rules{}) || n != 0 {
			t.Errorf("New(%d) has rules: %+v, %d", keys, r, n)
		}
		if len(e.Open()) != 0 || len(e.Resources()) != 0 || e.Last() != 0 || e.Flight("a") != 0 {
			t.Errorf("New(%d): something happened", keys)
		}
		if got := pass(t, e, callAt(0, inbound, from("x"), tokens(api.MaxCount))); got != 1 {
			t.Errorf("New(%d): the first entry has the number %d", keys, got)
		}
	}
}

// P17.1: as many values of a hot parameter as keys say are kept exactly, by a sketch of the seed.
func TestKeysAndSeed(t *testing.T) {
	hot := api.Hot{Resource: "a", Count: 1, Seconds: 1}
	// blocked is which of many values are blocked, though none of them came before.
	blocked := func(keys int, seed uint64) []int {
		e, err := slots.New(keys, seed)
		if err != api.OK {
			t.Fatal(err)
		}
		load(t, e, hots(hot))
		var l []int
		for i := range 1000 {
			if _, v, _ := e.Entry(callAt(i, args(fmt.Sprint("v", i)))); v.Reason == api.ByHot {
				l = append(l, i)
			}
		}
		return l
	}
	one := blocked(1, 1)
	if len(one) == 0 {
		t.Fatal("no two values of a thousand stand in the same columns")
	}
	if slices.Equal(one, blocked(1, 2)) {
		t.Error("the seed plays no part")
	}
	if !slices.Equal(one, blocked(1, 1)) {
		t.Error("of one seed it is not the same")
	}
	e, _ := slots.New(2, 1)
	load(t, e, hots(api.Hot{Resource: "a", Count: 1000, Seconds: 1}))
	wide, _ := slots.New(3, 1)
	load(t, wide, hots(api.Hot{Resource: "a", Count: 1000, Seconds: 1}))
	// What comes back to the map counts from then on as if it were taken just then; what stayed does not.
	for _, e := range []*slots.Engine{e, wide} {
		for i, value := range []string{"x", "y", "z"} {
			pass(t, e, callAt(i, args(value), tokens(999)))
		}
		pass(t, e, callAt(900000, args("x")))
	}
	block(t, e, callAt(1000000, args("x"), tokens(2)), api.ByHot, 0)
	pass(t, wide, callAt(1000000, args("x"), tokens(2)))
}

// P17.1: Sample has ErrRange, unless both may be; else they are so, for system rules, from now on.
func TestSample(t *testing.T) {
	e := engineOf(t, systems(systemOf(-1, -1, -1, -1, 10), systemOf(-1, -1, -1, 20, -1)))
	pass(t, e, callAt(0, inbound))
	pass(t, e, callAt(0, inbound))
	steps := []struct {
		load, cpu int
		err       api.Errno
		reason    api.Reason
		rule      int
	}{
		{0, 0, api.OK, api.Passed, 0},
		{0, 10, api.OK, api.Passed, 0},
		{0, 11, api.OK, api.BySystem, 0},
		{21, 10, api.OK, api.BySystem, 1},
		{20, 10, api.OK, api.Passed, 0},
		{21, 11, api.OK, api.BySystem, 0},
		{-1, 0, api.ErrRange, api.BySystem, 0},
		{0, -1, api.ErrRange, api.BySystem, 0},
		{api.MaxCount + 1, 0, api.ErrRange, api.BySystem, 0},
		{0, api.MaxCount + 1, api.ErrRange, api.BySystem, 0},
		{math.MinInt, math.MaxInt, api.ErrRange, api.BySystem, 0},
		{api.MaxCount, 0, api.OK, api.BySystem, 1},
		{0, api.MaxCount, api.OK, api.BySystem, 0},
		{0, 0, api.OK, api.Passed, 0},
	}
	for i, x := range steps {
		if err := e.Sample(x.load, x.cpu); err != x.err {
			t.Errorf("step %d: Sample(%d, %d) = %v, want %v", i, x.load, x.cpu, err, x.err)
		}
		if _, v, err := e.Fork().Entry(callAt(0, inbound)); v.Reason != x.reason || v.Rule != x.rule || err != api.OK {
			t.Errorf("step %d: behind Sample(%d, %d): %+v, %v", i, x.load, x.cpu, v, err)
		}
	}
}

// P17.4: Open are the numbers of the entries that are not over, rising; Flight is how many of a resource are not.
func TestOpen(t *testing.T) {
	e := newEngine(t)
	for i := range 30 {
		name := []string{"a", "b", "a"}[i%3]
		if got := pass(t, e, callAt(i, resource(name))); got != i+1 {
			t.Errorf("entry %d has the number %d", i, got)
		}
	}
	var open []int
	for i := range 30 {
		if i%4 == 3 || i > 20 {
			exit(t, e, i+1, 30, false)
		} else {
			open = append(open, i+1)
		}
	}
	if got := e.Open(); !slices.Equal(got, open) {
		t.Errorf("Open = %v, want %v", got, open)
	}
	if a, b := e.Flight("a"), e.Flight("b"); a != 11 || b != 5 || e.Flight("nobody") != 0 || e.Flight("") != 0 {
		t.Errorf("Flight: %d, %d, want 11, 5", a, b)
	}
	if got := pass(t, e, callAt(30)); got != 31 {
		t.Errorf("an entry behind those has the number %d", got)
	}
}

// P17.2: a blocked call has no number, and takes none.
func TestNumbers(t *testing.T) {
	e := engineOf(t, flows(flowOf(2)))
	for i, want := range []int{1, 2} {
		if got := pass(t, e, callAt(i)); got != want {
			t.Errorf("the number %d, want %d", got, want)
		}
	}
	block(t, e, callAt(3), api.ByFlow, 0)
	if _, _, err := e.Entry(callAt(2)); err != api.ErrBack {
		t.Errorf("a call ahead: %v", err)
	}
	if got := pass(t, e, callAt(4, resource("b"))); got != 3 {
		t.Errorf("behind a blocked call and a refused one: the number %d", got)
	}
	if got := e.Open(); !slices.Equal(got, []int{1, 2, 3}) {
		t.Errorf("Open = %v", got)
	}
}

// P17.4: Counts are those of the Cluster node at a time, with the tree's errors; they note nothing.
func TestCounts(t *testing.T) {
	e := engineOf(t, flows(flowOf(9)))
	first := pass(t, e, callAt(100, tokens(5)))
	pass(t, e, callAt(150, tokens(2), inContext("side"), from("app1"), inbound))
	block(t, e, callAt(200, tokens(3)), api.ByFlow, 0)
	pass(t, e, callAt(250, resource("b"), tokens(9)))
	exit(t, e, first, 300, true)
	want := api.Counts{Pass: 7, Block: 3, Done: 1, Errors: 1, RtSum: 200, MinRt: 200}
	tests := []struct {
		at   int
		name string
		want api.Counts
		err  api.Errno
	}{
		{300, "a", want, api.OK}, {999999, "a", want, api.OK}, {1000000, "a", api.Counts{}, api.OK}, {api.MaxTime, "a", api.Counts{}, api.OK},
		{300, "b", api.Counts{Pass: 9}, api.OK},
		{300, "nobody", api.Counts{}, api.ErrNone}, {300, "", api.Counts{}, api.ErrNone}, {300, "main", api.Counts{}, api.ErrNone}, {api.MaxTime, "x y", api.Counts{}, api.ErrNone},
		{299, "a", api.Counts{}, api.ErrBack}, {0, "nobody", api.Counts{}, api.ErrBack},
		{-1, "a", api.Counts{}, api.ErrRange}, {api.MaxTime + 1, "nobody", api.Counts{}, api.ErrRange}, {math.MinInt, "", api.Counts{}, api.ErrRange},
	}
	for _, x := range tests {
		if got, err := e.Counts(x.at, x.name); got != x.want || err != x.err {
			t.Errorf("Counts(%d, %q) = %+v, %v, want %+v, %v", x.at, x.name, got, err, x.want, x.err)
		}
	}
	if e.Last() != 300 {
		t.Errorf("Last = %d", e.Last())
	}
}

// P17.4: Resources are those of the Cluster nodes, in the order in which they came, blocked calls' among them.
func TestResources(t *testing.T) {
	e := engineOf(t, flows(flowOf(0, ofResource("blocked")), flowOf(1, related(api.Relate, "ref"))))
	for i, name := range []string{"c", "a", "c", "blocked", "b", "a"} {
		e.Entry(callAt(i, resource(name), inContext("c"), from("a"), inbound))
	}
	e.Entry(callAt(3, resource("late")))
	e.Entry(callAt(9, resource("b a d")))
	if got := e.Resources(); !slices.Equal(got, []string{"c", "a", "blocked", "b"}) {
		t.Errorf("Resources = %q", got)
	}
}

// P17.2 to P17.4: Last is the greatest time that was noted: by calls that pass, or are blocked, and by their ends; by nothing else.
func TestLast(t *testing.T) {
	e := newEngine(t)
	is := func(want int, what string) {
		t.Helper()
		if got := e.Last(); got != want {
			t.Errorf("%s: Last = %d, want %d", what, got, want)
		}
	}
	is(0, "nothing")
	number := pass(t, e, callAt(10))
	is(10, "passed")
	load(t, e, flows(flowOf(1)))
	block(t, e, callAt(20), api.ByFlow, 0)
	is(20, "blocked")
	e.Entry(callAt(30, resource("")))
	e.Entry(callAt(30, tokens(0)))
	e.Entry(callAt(30, args(strings.Repeat("x", 65))))
	e.Exit(0, 40, false)
	e.Exit(2, 40, false)
	e.Counts(50, "a")
	e.Sample(60, 60)
	is(20, "refused, or asked")
	exit(t, e, number, 70, false)
	is(70, "ended")
	e.Exit(number, 80, false)
	is(70, "over")
	pass(t, e, callAt(api.MaxTime))
	is(api.MaxTime, "the greatest")
}
