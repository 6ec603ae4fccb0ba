package rules_test

import (
	"math"
	"strings"
	"testing"

	"spillway/api"
	"spillway/rules"
)

const hour = 3600

// Rules of each kind that are right.
func flow() api.Flow {
	return api.Flow{Resource: "r", Origin: api.DefaultName, Count: 5}
}

func breaker() api.Break {
	return api.Break{Resource: "r", Grade: api.ErrorRatio, Count: 500, Least: 5, Window: 1500000, Recover: 2000000}
}

func hot() api.Hot {
	return api.Hot{Resource: "r", Count: 3, Seconds: 1, Items: []api.Item{{Value: "vip", Count: 100}, {Value: "", Count: 0}}}
}

func system() api.System { return api.System{Qps: -1, Threads: -1, Rt: -1, Load: -1, Cpu: -1} }

func list() api.Authority { return api.Authority{Resource: "r", Origins: []string{"a", "b"}} }

// names are texts, and whether each is a name.
var names = map[string]bool{
	"a":                                true,
	"!":                                true,
	"~":                                true,
	"main/x-1":                         true,
	api.DefaultName:                    true,
	strings.Repeat("n", api.MaxName):   true,
	strings.Repeat("n", api.MaxName+1): false,
	strings.Repeat("n", 1<<20):         false,
	"":                                 false,
	" ":                                false,
	"a b":                              false,
	"a ":                               false,
	" a":                               false,
	"a\t":                              false,
	"a\n":                              false,
	"a\x00":                            false,
	"a\x7f":                            false,
	"\x80":                             false,
	"\xff":                             false,
	"é":                                false,
	"a\x1f":                            false,
}

// P7.1: IsName, by texts that are written out, and by each byte in each place.
func TestIsName(t *testing.T) {
	for s, want := range names {
		if rules.IsName(s) != want {
			t.Errorf("IsName(%q) = %v", s, !want)
		}
	}
	for b := range 256 {
		want := b >= 33 && b <= 126
		one := string([]byte{byte(b)})
		for _, s := range []string{one, one + "a", "a" + one, "a" + one + "a"} {
			if rules.IsName(s) != want {
				t.Errorf("IsName(%q) = %v", s, !want)
			}
		}
	}
	for n := range 200 {
		if got := rules.IsName(strings.Repeat("x", n)); got != (n >= 1 && n <= 64) {
			t.Errorf("IsName of %d bytes = %v", n, got)
		}
	}
}

// number is one field of a rule, and from where to where it may be.
type number[R any] struct {
	name   string
	set    func(r *R, n int)
	lo, hi int
}

// bounds holds a field to its limits: those outside of them have the error.
func bounds[R any](t *testing.T, make func() R, look func(R) api.Errno, err api.Errno, fields ...number[R]) {
	t.Helper()
	for _, f := range fields {
		tests := map[int]api.Errno{
			f.lo: api.OK, f.hi: api.OK, f.lo + (f.hi-f.lo)/2: api.OK,
			f.lo - 1: err, f.hi + 1: err, math.MinInt: err, math.MaxInt: err, f.hi + 1<<32: err, f.lo - 1<<32: err,
		}
		for n, want := range tests {
			r := make()
			f.set(&r, n)
			if got := look(r); got != want {
				t.Errorf("%s %d: %v, want %v", f.name, n, got, want)
			}
		}
	}
}

func shaped(s api.Shape) func() api.Flow {
	return func() api.Flow {
		f := flow()
		f.Shape = s
		if s == api.WarmUp || s == api.WarmPace {
			f.Warm = 10
		}
		return f
	}
}

func cluster() api.Flow {
	f := flow()
	f.Cluster, f.Id = true, 7
	return f
}

func threads() api.Flow {
	f := flow()
	f.Threads = true
	return f
}

func related() api.Flow {
	f := flow()
	f.Strategy, f.Ref = api.Relate, "b"
	return f
}

// P7.1: each number of a flow rule has its limits, which hang on its shape, and on the server's part.
func TestFlowNumbers(t *testing.T) {
	count := func(f *api.Flow, n int) { f.Count = n }
	warm := func(f *api.Flow, n int) { f.Warm = n }
	queue := func(f *api.Flow, n int) { f.Queue = n }
	id := func(f *api.Flow, n int) { f.Id = n }
	type field = number[api.Flow]
	bounds(t, flow, rules.Flow, api.ErrFlow, field{"Count", count, 0, 1 << 40}, field{"Warm", warm, 0, 0}, field{"Queue", queue, 0, 0}, field{"Id", id, 0, 0})
	bounds(t, related, rules.Flow, api.ErrFlow, field{"related Count", count, 0, 1 << 40}, field{"related Id", id, 0, 0})
	bounds(t, threads, rules.Flow, api.ErrFlow, field{"threads' Count", count, 0, 1 << 40}, field{"threads' Warm", warm, 0, 0}, field{"threads' Queue", queue, 0, 0})
	bounds(t, cluster, rules.Flow, api.ErrFlow, field{"cluster's Count", count, 0, 1 << 40}, field{"cluster's Id", id, 1, 1 << 40})
	bounds(t, shaped(api.WarmUp), rules.Flow, api.ErrFlow, field{"WarmUp's Count", count, 1, 1 << 40}, field{"WarmUp's Warm", warm, 1, hour}, field{"WarmUp's Queue", queue, 0, 0})
	bounds(t, shaped(api.Pace), rules.Flow, api.ErrFlow, field{"Pace's Count", count, 1, 1 << 40}, field{"Pace's Warm", warm, 0, 0}, field{"Pace's Queue", queue, 0, 3600000000})
	bounds(t, shaped(api.WarmPace), rules.Flow, api.ErrFlow, field{"WarmPace's Count", count, 1, 1 << 40}, field{"WarmPace's Warm", warm, 1, hour}, field{"WarmPace's Queue", queue, 0, 3600000000})
}

// P7.1: what goes with what in a flow rule.
func TestFlowParts(t *testing.T) {
	tests := []struct {
		name   string
		change func(f *api.Flow)
		want   api.Errno
	}{
		{"as it is", func(f *api.Flow) {}, api.OK},
		{"an origin", func(f *api.Flow) { f.Origin = "app1" }, api.OK},
		{"other", func(f *api.Flow) { f.Origin = api.OtherName }, api.OK},
		{"no origin", func(f *api.Flow) { f.Origin = "" }, api.ErrName},
		{"Direct with a Ref", func(f *api.Flow) { f.Ref = "b" }, api.ErrFlow},
		{"Direct with a Ref that is no name", func(f *api.Flow) { f.Ref = "a b" }, api.ErrFlow},
		{"Relate", func(f *api.Flow) { f.Strategy, f.Ref = api.Relate, "b" }, api.OK},
		{"Chain", func(f *api.Flow) { f.Strategy, f.Ref = api.Chain, "b" }, api.OK},
		{"Relate without a Ref", func(f *api.Flow) { f.Strategy = api.Relate }, api.ErrName},
		{"Chain without a Ref", func(f *api.Flow) { f.Strategy = api.Chain }, api.ErrName},
		{"a Strategy that is none", func(f *api.Flow) { f.Strategy = api.Chain + 1 }, api.ErrFlow},
		{"the last Strategy there is room for", func(f *api.Flow) { f.Strategy = 255 }, api.ErrFlow},
		{"a Strategy that is none, with a Ref that is no name", func(f *api.Flow) { f.Strategy, f.Ref = api.Chain+1, "a b" }, api.ErrFlow},
		{"a Shape that is none", func(f *api.Flow) { f.Shape = api.WarmPace + 1 }, api.ErrFlow},
		{"the last Shape there is room for", func(f *api.Flow) { f.Shape = 255 }, api.ErrFlow},
		{"WarmUp, Relate", func(f *api.Flow) { f.Shape, f.Warm, f.Strategy, f.Ref = api.WarmUp, 1, api.Relate, "b" }, api.OK},
		{"the document's example", func(f *api.Flow) { f.Shape = api.WarmUp }, api.ErrFlow},
		{"a warm-up that paces too", func(f *api.Flow) { f.Shape, f.Warm, f.Queue = api.WarmPace, 1, 1 }, api.OK},
		{"threads", func(f *api.Flow) { f.Threads = true }, api.OK},
		{"threads, related", func(f *api.Flow) { f.Threads, f.Strategy, f.Ref = true, api.Relate, "b" }, api.OK},
		{"threads that warm up", func(f *api.Flow) { f.Threads, f.Shape, f.Warm = true, api.WarmUp, 1 }, api.ErrFlow},
		{"threads that are paced", func(f *api.Flow) { f.Threads, f.Shape = true, api.Pace }, api.ErrFlow},
		{"threads by the server", func(f *api.Flow) { f.Threads, f.Cluster, f.Id = true, true, 1 }, api.ErrFlow},
		{"by the server", func(f *api.Flow) { f.Cluster, f.Id = true, 1 }, api.OK},
		{"by the server, else as it says", func(f *api.Flow) { f.Cluster, f.Id, f.Fallback = true, 1, true }, api.OK},
		{"by the server, related", func(f *api.Flow) { f.Cluster, f.Id, f.Strategy, f.Ref = true, 1, api.Relate, "b" }, api.ErrFlow},
		{"by the server, in a chain", func(f *api.Flow) { f.Cluster, f.Id, f.Strategy, f.Ref = true, 1, api.Chain, "b" }, api.ErrFlow},
		{"by the server, paced", func(f *api.Flow) { f.Cluster, f.Id, f.Shape = true, 1, api.Pace }, api.ErrFlow},
		{"by the server, warming up", func(f *api.Flow) { f.Cluster, f.Id, f.Shape, f.Warm = true, 1, api.WarmUp, 1 }, api.ErrFlow},
		{"without the server, with an Id", func(f *api.Flow) { f.Id = 1 }, api.ErrFlow},
		{"without the server, falling back", func(f *api.Flow) { f.Fallback = true }, api.ErrFlow},
		{"a name and more that is wrong", func(f *api.Flow) { f.Resource, f.Count = "", -1 }, api.ErrName},
		{"a Ref and more that is wrong", func(f *api.Flow) { f.Strategy, f.Count = api.Chain, -1 }, api.ErrName},
	}
	for _, x := range tests {
		f := flow()
		x.change(&f)
		if got := rules.Flow(f); got != x.want {
			t.Errorf("%s: %v, want %v", x.name, got, x.want)
		}
	}
	if got := rules.Flow(api.Flow{}); got != api.ErrName {
		t.Errorf("an empty one: %v", got)
	}
}

// P7.1: each name of each kind of rules must be one, and is named ahead of all else that is wrong.
func TestNames(t *testing.T) {
	for s, isName := range names {
		want := api.ErrName
		if isName {
			want = api.OK
		}
		looks := map[string]func() api.Errno{
			"a flow's Resource": func() api.Errno { f := flow(); f.Resource = s; return rules.Flow(f) },
			"a flow's Origin":   func() api.Errno { f := flow(); f.Origin = s; return rules.Flow(f) },
			"Relate's Ref":      func() api.Errno { f := related(); f.Ref = s; return rules.Flow(f) },
			"Chain's Ref":       func() api.Errno { f := related(); f.Strategy, f.Ref = api.Chain, s; return rules.Flow(f) },
			"a break's":         func() api.Errno { b := breaker(); b.Resource = s; return rules.Break(b) },
			"a hot one's":       func() api.Errno { h := hot(); h.Resource = s; return rules.Hot(h) },
			"a list's":          func() api.Errno { l := list(); l.Resource = s; return rules.List(l) },
			"the last origin":   func() api.Errno { l := list(); l.Origins = []string{"x", "y", s}; return rules.List(l) },
		}
		for name, look := range looks {
			if got := look(); got != want {
				t.Errorf("%s %q: %v, want %v", name, s, got, want)
			}
		}
	}
	if rules.Break(api.Break{Resource: "a b", Grade: 9}) != api.ErrName || rules.Hot(api.Hot{Index: -1}) != api.ErrName || rules.List(api.Authority{}) != api.ErrName {
		t.Error("a name is not named first")
	}
	if got := rules.List(api.Authority{Resource: "r", Origins: append(make([]string, 40), "a")}); got != api.ErrName {
		t.Errorf("a list of too many, some of them no names: %v", got)
	}
}

func graded(g api.Grade) func() api.Break {
	return func() api.Break {
		b := breaker()
		b.Grade = g
		if g == api.SlowRatio {
			b.Slow = 100
		}
		return b
	}
}

// P7.1: a breaker's rule: its numbers by its grade; its times are microseconds, Window and Recover of a second at least.
func TestBreak(t *testing.T) {
	type field = number[api.Break]
	count := func(b *api.Break, n int) { b.Count = n }
	slow := func(b *api.Break, n int) { b.Slow = n }
	all := []field{
		{"Least", func(b *api.Break, n int) { b.Least = n }, 1, 1 << 40},
		{"Window", func(b *api.Break, n int) { b.Window = n }, 1000000, 120000000},
		{"Recover", func(b *api.Break, n int) { b.Recover = n }, 1000000, 3600000000},
	}
	bounds(t, graded(api.SlowRatio), rules.Break, api.ErrBreak, append(all, field{"Count", count, 0, 1000}, field{"Slow", slow, 1, 3600000000})...)
	bounds(t, graded(api.ErrorRatio), rules.Break, api.ErrBreak, append(all, field{"Count", count, 0, 1000}, field{"Slow", slow, 0, 0})...)
	bounds(t, graded(api.ErrorCount), rules.Break, api.ErrBreak, append(all, field{"Count", count, 0, 1 << 40}, field{"Slow", slow, 0, 0})...)
	for _, g := range []api.Grade{api.ErrorCount + 1, 255} {
		if got := rules.Break(graded(g)()); got != api.ErrBreak {
			t.Errorf("Grade %d: %v", g, got)
		}
	}
}

// P7.1: a Window or a Recover below a second is refused with every grade, whatever the other one is; a Slow below it is not.
func TestBreakBelowASecond(t *testing.T) {
	tests := []struct {
		window, recover int
		want            api.Errno
	}{
		{1000000, 1000000, api.OK},
		{999999, 1000000, api.ErrBreak},
		{1000000, 999999, api.ErrBreak},
		{999999, 999999, api.ErrBreak},
		{120, 3600, api.ErrBreak},
		{120000, 3600000000, api.ErrBreak},
		{120000000, 200000, api.ErrBreak},
		{1, 1, api.ErrBreak},
		{120000000, 3600000000, api.OK},
	}
	for _, x := range tests {
		for _, g := range []api.Grade{api.SlowRatio, api.ErrorRatio, api.ErrorCount} {
			b := graded(g)()
			b.Window, b.Recover = x.window, x.recover
			if got := rules.Break(b); got != x.want {
				t.Errorf("Grade %d, Window %d, Recover %d: %v, want %v", g, x.window, x.recover, got, x.want)
			}
		}
	}
}

// items are so many, no two alike.
func items(n int) []api.Item {
	l := make([]api.Item, n)
	for i := range l {
		l[i].Value = strings.Repeat("v", i)
	}
	return l
}

// P7.1: a rule of hot parameters, and its items.
func TestHot(t *testing.T) {
	type field = number[api.Hot]
	bounds(t, hot, rules.Hot, api.ErrHot,
		field{"Index", func(h *api.Hot, n int) { h.Index = n }, 0, 7},
		field{"Count", func(h *api.Hot, n int) { h.Count = n }, 0, 1 << 40},
		field{"Seconds", func(h *api.Hot, n int) { h.Seconds = n }, 1, 60},
		field{"an item's Count", func(h *api.Hot, n int) { h.Items[1].Count = n }, 0, 1 << 40})
	value := func(n int) api.Item { return api.Item{Value: strings.Repeat("x", n), Count: 1} }
	tests := []struct {
		name  string
		items []api.Item
		want  api.Errno
	}{
		{"none", nil, api.OK},
		{"none, as a list", []api.Item{}, api.OK},
		{"as many as may be", items(32), api.OK},
		{"one more", items(33), api.ErrHot},
		{"any bytes", []api.Item{{Value: "\xff \x00"}, {Value: "\n"}}, api.OK},
		{"the longest value", []api.Item{value(64)}, api.OK},
		{"a longer one", []api.Item{value(65)}, api.ErrHot},
		{"a longer one behind another", []api.Item{value(1), value(65)}, api.ErrHot},
		{"two alike", []api.Item{{Value: "a", Count: 1}, {Value: "a", Count: 1}}, api.ErrHot},
		{"two alike but for their counts", []api.Item{{Value: "a", Count: 1}, {Value: "b"}, {Value: "a", Count: 2}}, api.ErrHot},
		{"two empty ones", []api.Item{{Count: 1}, {Count: 2}}, api.ErrHot},
		{"alike but for small letters", []api.Item{{Value: "a"}, {Value: "A"}}, api.OK},
		{"very many", make([]api.Item, 1<<16), api.ErrHot},
	}
	for _, x := range tests {
		h := hot()
		h.Items = x.items
		if got := rules.Hot(h); got != x.want {
			t.Errorf("%s: %v, want %v", x.name, got, x.want)
		}
	}
}

// P7.1: each field of a system rule is -1, or a count.
func TestSystem(t *testing.T) {
	type field = number[api.System]
	bounds(t, system, rules.System, api.ErrSystem,
		field{"Qps", func(s *api.System, n int) { s.Qps = n }, -1, 1 << 40},
		field{"Threads", func(s *api.System, n int) { s.Threads = n }, -1, 1 << 40},
		field{"Rt", func(s *api.System, n int) { s.Rt = n }, -1, 1 << 40},
		field{"Load", func(s *api.System, n int) { s.Load = n }, -1, 1 << 40},
		field{"Cpu", func(s *api.System, n int) { s.Cpu = n }, -1, 1 << 40})
	if got := rules.System(api.System{}); got != api.OK {
		t.Errorf("an empty one: %v", got)
	}
}

func origins(n int) []string {
	l := make([]string, n)
	for i := range l {
		l[i] = strings.Repeat("o", i+1)
	}
	return l
}

// P7.1: an authority list has origins, and no two alike.
func TestList(t *testing.T) {
	tests := []struct {
		name    string
		origins []string
		want    api.Errno
	}{
		{"none", nil, api.ErrList},
		{"none, as a list", []string{}, api.ErrList},
		{"one", []string{"a"}, api.OK},
		{"as many as may be", origins(32), api.OK},
		{"one more", origins(33), api.ErrList},
		{"two alike", []string{"a", "a"}, api.ErrList},
		{"two alike, far off", []string{"b", "a", "c", "b"}, api.ErrList},
		{"two alike, and one that is no name", []string{"b", "b", "a b"}, api.ErrName},
		{"alike but for small letters", []string{"a", "A"}, api.OK},
	}
	for _, x := range tests {
		for _, white := range []bool{false, true} {
			if got := rules.List(api.Authority{Resource: "r", White: white, Origins: x.origins}); got != x.want {
				t.Errorf("%s: %v, want %v", x.name, got, x.want)
			}
		}
	}
}

// P3: a look leaves the order of lists as it was.
func TestLooksChangeNothing(t *testing.T) {
	h, l := hot(), list()
	h.Items, l.Origins = []api.Item{{Value: "z"}, {Value: "a"}, {Value: "m"}}, []string{"z", "a", "m"}
	if rules.Hot(h) != api.OK || rules.List(l) != api.OK {
		t.Fatal("they are right")
	}
	for i, want := range []string{"z", "a", "m"} {
		if h.Items[i].Value != want || l.Origins[i] != want {
			t.Errorf("%d: %q, %q, want %q", i, h.Items[i].Value, l.Origins[i], want)
		}
	}
}
