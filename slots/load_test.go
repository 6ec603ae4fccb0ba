package slots_test

import (
	"slices"
	"testing"

	"spillway/api"
	"spillway/rules"
	"spillway/slots"
)

// all are rules of each kind.
func all() api.Rules {
	return api.Rules{
		Flows:   []api.Flow{flowOf(5), flowOf(7, ofResource("b"), paced(second))},
		Breaks:  []api.Break{errorsOf(3)},
		Hots:    []api.Hot{{Resource: "a", Count: 3, Seconds: 1, Items: []api.Item{{Value: "vip", Count: 100}}}},
		Systems: []api.System{systemOf(50, -1, -1, -1, -1)},
		Lists:   []api.Authority{{Resource: "b", White: true, Origins: []string{"app1", "app2"}}},
	}
}

// changedBy is all rules with one change.
func changedBy(change func(r *api.Rules)) api.Rules {
	r := all()
	change(&r)
	return r
}

// P17.1: Load replaces all rules; Rules tells them, and how often they were replaced.
func TestLoad(t *testing.T) {
	e := newEngine(t)
	for i, r := range []api.Rules{all(), flows(flowOf(1)), {}, all(), all()} {
		load(t, e, r)
		if got, n := e.Rules(); !rules.Same(got, r) || n != i+1 {
			t.Errorf("Rules = %+v, %d, want %+v, %d", got, n, r, i+1)
		}
	}
	if e.Last() != 0 || len(e.Resources()) != 0 {
		t.Error("Load notes something")
	}
}

// P17.1: Load has rules.Where's error, and nothing changes: neither rules, nor how often they were replaced, nor a state.
func TestLoadRefused(t *testing.T) {
	e := engineOf(t, all())
	pass(t, e, callAt(5, args("x", "y"), tokens(2)))
	pass(t, e, callAt(5, resource("b"), from("app1"), tokens(3)))
	was := stateOf(e)
	tests := []struct {
		r   api.Rules
		err api.Errno
	}{
		{changedBy(func(r *api.Rules) { r.Flows[0].Resource = "" }), api.ErrName},
		{changedBy(func(r *api.Rules) { r.Flows[1].Count = -1 }), api.ErrFlow},
		{changedBy(func(r *api.Rules) { r.Breaks[0].Least = 0 }), api.ErrBreak},
		{changedBy(func(r *api.Rules) { r.Hots[0].Seconds = 0 }), api.ErrHot},
		{changedBy(func(r *api.Rules) { r.Systems[0].Cpu = -2 }), api.ErrSystem},
		{changedBy(func(r *api.Rules) { r.Lists[0].Origins = nil }), api.ErrList},
		{changedBy(func(r *api.Rules) { r.Lists[0].Origins = nil; r.Breaks[0].Grade = 9 }), api.ErrBreak},
		{changedBy(func(r *api.Rules) { r.Flows[0].Count = -1; r.Systems = make([]api.System, api.MaxRules+1) }), api.ErrLong},
		{flows(slices.Repeat([]api.Flow{flowOf(1)}, api.MaxRules+1)...), api.ErrLong},
	}
	for i, x := range tests {
		if err := e.Load(x.r); err != x.err {
			t.Errorf("Load %d: %v, want %v", i, err, x.err)
		}
		if got := stateOf(e); got != was {
			t.Fatalf("Load %d is refused, and changes\n%s\nto\n%s", i, was, got)
		}
	}
	load(t, e, flows(slices.Repeat([]api.Flow{flowOf(1)}, api.MaxRules)...))
}

// spentFlow, spentHot and tripped are an engine whose rule, of number 0, blocks at 5, as its state stands; no entry is open that it counts.
func spentFlow(t *testing.T, r api.Flow) *slots.Engine {
	t.Helper()
	e := engineOf(t, flows(r))
	number := pass(t, e, callAt(5, tokens(3)))
	exit(t, e, number, 5, false)
	block(t, e, callAt(5), api.ByFlow, 0)
	return e
}

func spentHot(t *testing.T, r api.Hot) *slots.Engine {
	t.Helper()
	e := engineOf(t, hots(r))
	pass(t, e, callAt(5, args("x"), tokens(3)))
	block(t, e, callAt(5, args("x")), api.ByHot, 0)
	return e
}

func tripped(t *testing.T, r api.Break) *slots.Engine {
	t.Helper()
	e := engineOf(t, breaks(r))
	exit(t, e, pass(t, e, callAt(5)), 5, true)
	block(t, e, callAt(5), api.ByBreaker, 0)
	return e
}

// P17.1: of flow rules that pace, one that is the same keeps its state, at whatever number it stands; another one, however little, begins.
func TestKeepsPace(t *testing.T) {
	r := flowOf(10, paced(0))
	for name, x := range map[string]struct {
		l     []api.Flow
		rule  int
		keeps bool
	}{
		"the same":              {[]api.Flow{r}, 0, true},
		"at another number":     {[]api.Flow{flowOf(9, ofResource("b"), paced(0)), flowOf(100), r}, 2, true},
		"twice":                 {[]api.Flow{r, r}, 0, true},
		"behind another one":    {[]api.Flow{flowOf(11, paced(0)), r}, 1, true},
		"of another count":      {[]api.Flow{flowOf(11, paced(0))}, 0, false},
		"of another queue":      {[]api.Flow{flowOf(10, paced(1))}, 0, false},
		"of another strategy":   {[]api.Flow{flowOf(10, paced(0), related(api.Chain, "main"))}, 0, false},
		"of another shape":      {[]api.Flow{flowOf(10, warmPaced(1, 0))}, 0, false},
		"of another origin":     {[]api.Flow{flowOf(10, paced(0), ofOrigin(api.OtherName))}, 0, false},
		"of another resource":   {[]api.Flow{flowOf(10, paced(0), ofResource("b"))}, 0, false},
		"that does not pace":    {[]api.Flow{flowOf(10)}, 0, false},
		"no more, of any other": {nil, 0, false},
	} {
		e := spentFlow(t, r)
		load(t, e, flows(x.l...))
		if !x.keeps {
			pass(t, e, callAt(5))
			continue
		}
		t.Log(name)
		block(t, e, callAt(5), api.ByFlow, x.rule)
	}
}

// P17.1: a rule that went and comes again begins.
func TestBeginsAnew(t *testing.T) {
	pace := flowOf(10, paced(0))
	e := spentFlow(t, pace)
	load(t, e, api.Rules{})
	load(t, e, flows(pace))
	pass(t, e, callAt(5))

	hot := api.Hot{Resource: "a", Count: 3, Seconds: 1}
	e = spentHot(t, hot)
	load(t, e, api.Rules{})
	load(t, e, hots(hot))
	pass(t, e, callAt(5, args("x"), tokens(3)))

	e = tripped(t, errorsOf(0))
	load(t, e, api.Rules{})
	load(t, e, breaks(errorsOf(0)))
	pass(t, e, callAt(5))
}

// P17.1: warm-ups keep their state: one that was filled at a second is not filled again at it, and one that begins is cold.
func TestKeepsWarm(t *testing.T) {
	for name, r := range map[string]api.Flow{"warm-up": flowOf(100, warmed(10)), "warm and paced": flowOf(100, warmPaced(10, second))} {
		e := engineOf(t, flows(r))
		at := 0
		for at < 40*second { // as much as the rate lets pass, till it is warm
			if number, _, _ := e.Entry(callAt(at)); number != 0 {
				exit(t, e, number, at, false)
			}
			at += 10000
		}
		// many is how many more pass in the next second, as fast as they may.
		many := func(e *slots.Engine) int {
			n := 0
			for i := range 200 {
				if number, _, _ := e.Entry(callAt(at + i*5000)); number != 0 {
					n++
				}
			}
			return n
		}
		begun, kept, again := e.Fork(), e.Fork(), e.Fork()
		load(t, kept, flows(flowOf(1<<40), r))
		load(t, begun, flows(flowOf(100, func(x *api.Flow) { *x = r; x.Warm++ })))
		load(t, again, api.Rules{})
		load(t, again, flows(r))
		if a, b := many(e), many(kept); a != b || a < 95 {
			t.Errorf("%s: %d pass, and of the same rule that was loaded again %d", name, a, b)
		}
		if a, b := many(begun), many(again); a > 80 || b > 80 {
			t.Errorf("%s: of those that begin %d pass, and %d", name, a, b)
		}
	}
}

// P17.1: hot rules keep their state as far as all of their fields are the same, their items too; a list that is nil is an empty one.
func TestKeepsHot(t *testing.T) {
	r := api.Hot{Resource: "a", Count: 3, Seconds: 1}
	with := func(change func(r *api.Hot)) api.Hot {
		x := r
		change(&x)
		return x
	}
	item := func(value string, count int) func(r *api.Hot) {
		return func(r *api.Hot) { r.Items = []api.Item{{Value: value, Count: count}} }
	}
	tests := []struct {
		was, is api.Hot
		keeps   bool
	}{
		{r, r, true},
		{r, with(func(r *api.Hot) { r.Items = []api.Item{} }), true},
		{with(item("y", 5)), with(item("y", 5)), true},
		{with(item("y", 5)), with(item("y", 6)), false},
		{with(item("y", 5)), with(item("z", 5)), false},
		{with(item("y", 5)), r, false},
		{r, with(func(r *api.Hot) { r.Count = 4 }), false},
		{r, with(func(r *api.Hot) { r.Seconds = 2 }), false},
	}
	for i, x := range tests {
		e := spentHot(t, x.was)
		load(t, e, hots(api.Hot{Resource: "b", Count: 1, Seconds: 1}, x.is))
		if !x.keeps {
			pass(t, e, callAt(5, args("x"), tokens(3)))
			continue
		}
		t.Log("test", i)
		block(t, e, callAt(5, args("x")), api.ByHot, 1)
	}
}

// P17.1: breakers keep their state: open ones are open until as they were, and half open ones have their probe.
func TestKeepsBreaker(t *testing.T) {
	r := errorsOf(0)
	e := tripped(t, r)
	load(t, e, breaks(errorsOf(1), r))
	block(t, e, callAt(second+4), api.ByBreaker, 1)
	probe := pass(t, e, callAt(second+5))
	block(t, e, callAt(second+5), api.ByBreaker, 1)
	load(t, e, breaks(r, errorsOf(2), errorsOf(1)))
	block(t, e, callAt(second+6), api.ByBreaker, 0)
	exit(t, e, probe, second+7, false)
	pass(t, e, callAt(second+7))

	e = tripped(t, r)
	longer := r
	longer.Recover++
	load(t, e, breaks(longer))
	pass(t, e, callAt(6))
}

// P17.1: of rules that are alike each gives its state to one: the first one that was there to the first one that comes.
func TestKeepsInOrder(t *testing.T) {
	r := errorsOf(0)
	// Of two that are alike the first one alone is open: the second one came when that had tripped.
	e := tripped(t, r)
	load(t, e, breaks(r, r))
	block(t, e, callAt(6), api.ByBreaker, 0)
	load(t, e, breaks(errorsOf(5), r, r))
	block(t, e, callAt(6), api.ByBreaker, 1)
	first := e.Fork()
	load(t, first, breaks(r))
	block(t, first, callAt(6), api.ByBreaker, 0)
	load(t, e, breaks(r, r, r))
	block(t, e, callAt(6), api.ByBreaker, 0)

	// An entry that ends with an error trips a second one too, if it came ahead of that.
	e = tripped(t, r)
	load(t, e, breaks(r, r))
	probe := pass(t, e, callAt(second+5))
	exit(t, e, probe, second+6, true)
	load(t, e, breaks(errorsOf(7), r))
	block(t, e, callAt(second+6), api.ByBreaker, 1)

	hot := api.Hot{Resource: "a", Count: 3, Seconds: 1}
	e = spentHot(t, hot)
	load(t, e, hots(hot, hot))
	block(t, e, callAt(5, args("x")), api.ByHot, 0)

	pace := flowOf(10, paced(0))
	e = spentFlow(t, pace)
	load(t, e, flows(pace, pace))
	block(t, e, callAt(5), api.ByFlow, 0)
	load(t, e, flows(pace))
	block(t, e, callAt(5), api.ByFlow, 0)
}

// P17.1, P17.2: rules that are loaded concern calls from then on alone, and what was there stays: entries, counts, the time.
func TestLoadLeavesTheRest(t *testing.T) {
	e := newEngine(t)
	number := pass(t, e, callAt(7, tokens(4)))
	load(t, e, flows(flowOf(5)))
	pass(t, e, callAt(7))
	block(t, e, callAt(7), api.ByFlow, 0)
	load(t, e, flows(flowOf(3, threads)))
	pass(t, e, callAt(7))
	block(t, e, callAt(7), api.ByFlow, 0)
	exit(t, e, number, 8, false)
	pass(t, e, callAt(8))
	if got := e.Open(); !slices.Equal(got, []int{2, 3, 4}) || e.Last() != 8 {
		t.Errorf("Open = %v, Last = %d", got, e.Last())
	}
}

// P3: rules that are handed in stay as they are, spare room too; what becomes of them, or of what Rules answered, is of no account.
func TestRulesAreTheCallers(t *testing.T) {
	r := all()
	r.Flows = r.Flows[:1]
	r.Hots[0].Items = append(r.Hots[0].Items, api.Item{Value: "spare", Count: 1})[:1]
	e := engineOf(t, r)
	if r.Flows[:2][1] != all().Flows[1] || r.Hots[0].Items[:2][1].Value != "spare" {
		t.Error("the rules that were handed in changed")
	}
	want := stateOf(e)
	spoil := func(r api.Rules) {
		r.Flows[0].Count = 0
		r.Breaks[0].Resource = "c"
		r.Hots[0].Items[0].Value = "x"
		r.Hots[0].Count = 0
		r.Systems[0].Qps = 0
		r.Lists[0].Origins[0] = "app9"
		r.Lists[0].White = false
	}
	spoil(r)
	if got := stateOf(e); got != want {
		t.Errorf("when what was handed in changed:\n%s\nwas\n%s", got, want)
	}
	answered, _ := e.Rules()
	again, _ := e.Rules()
	spoil(answered)
	if got := stateOf(e); got != want {
		t.Errorf("when an answer changed:\n%s\nwas\n%s", got, want)
	}
	if now, _ := e.Rules(); !rules.Same(again, now) {
		t.Error("another answer changed")
	}
}
