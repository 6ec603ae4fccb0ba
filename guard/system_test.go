package guard_test

import (
	"math"
	"slices"
	"testing"

	"spillway/api"
	"spillway/guard"
)

const most = 1 << 62

// none asks nothing.
var none = api.System{Qps: -1, Threads: -1, Rt: -1, Load: -1, Cpu: -1}

// asking is none, but for a change.
func asking(change func(r *api.System)) api.System {
	r := none
	change(&r)
	return r
}

func qps(n int) api.System     { return asking(func(r *api.System) { r.Qps = n }) }
func threads(n int) api.System { return asking(func(r *api.System) { r.Threads = n }) }
func rt(n int) api.System      { return asking(func(r *api.System) { r.Rt = n }) }
func load(n int) api.System    { return asking(func(r *api.System) { r.Load = n }) }
func cpu(n int) api.System     { return asking(func(r *api.System) { r.Cpu = n }) }

// busy is so much that each field that is asked for blocks.
var busy = guard.Now{Qps: most, Threads: most, Rt: most, Load: most, Cpu: most}

// isField holds Field, System and Systems of one rule against the field that is to block; empty: none.
func isField(t *testing.T, name string, r api.System, n int, now guard.Now, want string) {
	t.Helper()
	if got := guard.Field(r, n, now); got != want {
		t.Errorf("%s: Field(%+v, %d, %+v) = %q, want %q", name, r, n, now, got, want)
	}
	if got := guard.System(r, n, now); got != (want == "") {
		t.Errorf("%s: System(%+v, %d, %+v) = %v, where %q blocks", name, r, n, now, got, want)
	}
	if want == "form" {
		return
	}
	i, passes, err := guard.Systems([]api.System{r}, n, now)
	if passes != (want == "") || (i == 1) != passes || err != api.OK {
		t.Errorf("%s: Systems(%+v, %d, %+v) = %d, %v, %v, where %q blocks", name, r, n, now, i, passes, err, want)
	}
}

// Chapter 16, example 1; and DOC.md's 7.
func TestExample(t *testing.T) {
	now := guard.Now{Load: 1500, Threads: 5, Most: 2, Least: 100000}
	isField(t, "five in flight", load(1000), 1, now, "load")
	now.Threads = 2
	isField(t, "two in flight", load(1000), 1, now, "")
	isField(t, "two tokens", qps(10), 2, guard.Now{Qps: 8}, "")
	isField(t, "three tokens", qps(10), 3, guard.Now{Qps: 8}, "qps")
}

// P16.1: each field to its edges; -1 is not asked, 0 is.
func TestFields(t *testing.T) {
	tests := []struct {
		name string
		r    api.System
		n    int
		now  guard.Now
		want string
	}{
		{"nothing asked, all is busy", none, api.MaxCount, busy, ""},
		{"qps: just it", qps(10), 1, guard.Now{Qps: 9}, ""},
		{"qps: above it", qps(10), 1, guard.Now{Qps: 10}, "qps"},
		{"qps: by the call alone", qps(10), 11, guard.Now{}, "qps"},
		{"qps of 0", qps(0), 1, guard.Now{}, "qps"},
		{"qps: all", qps(api.MaxCount), api.MaxCount, guard.Now{}, ""},
		{"qps: above all", qps(api.MaxCount), api.MaxCount, guard.Now{Qps: 1}, "qps"},
		{"qps: as great as may be", qps(api.MaxCount), api.MaxCount, guard.Now{Qps: most}, "qps"},
		{"threads: just it", threads(5), 1, guard.Now{Threads: 4}, ""},
		{"threads: tokens are none", threads(5), api.MaxCount, guard.Now{Threads: 4}, ""},
		{"threads: above it", threads(5), 1, guard.Now{Threads: 5}, "threads"},
		{"threads of 0", threads(0), 1, guard.Now{}, "threads"},
		{"threads: as great as may be", threads(api.MaxCount), 1, guard.Now{Threads: most}, "threads"},
		{"rt: just it", rt(100), 5, guard.Now{Rt: 100}, ""},
		{"rt: above it", rt(100), 5, guard.Now{Rt: 101}, "rt"},
		{"rt of 0, and none", rt(0), 1, guard.Now{}, ""},
		{"rt of 0", rt(0), 1, guard.Now{Rt: 1}, "rt"},
		{"cpu: just it", cpu(800), 5, guard.Now{Cpu: 800}, ""},
		{"cpu: above it", cpu(800), 1, guard.Now{Cpu: 801}, "cpu"},
		{"cpu of 0, and none", cpu(0), 1, guard.Now{}, ""},
		{"cpu of 0", cpu(0), 1, guard.Now{Cpu: 1}, "cpu"},
		{"cpu: above it, whatever is in flight", cpu(800), 1, guard.Now{Cpu: 801, Threads: 1, Most: 100, Least: most}, "cpu"},
		{"load: just it, and too many", load(1000), 1, guard.Now{Load: 1000, Threads: 100}, ""},
		{"load: above it, and too many", load(1000), 1, guard.Now{Load: 1001, Threads: 100}, "load"},
		{"load: above it, and none in flight", load(1000), 1, guard.Now{Load: 1001}, ""},
		{"load: above it, and one in flight", load(1000), api.MaxCount, guard.Now{Load: most, Threads: 1}, ""},
		{"load: above it, and two in flight", load(1000), 1, guard.Now{Load: 1001, Threads: 2}, "load"},
		{"load: above it, and just as many", load(0), 1, guard.Now{Load: 1, Threads: 6, Most: 3, Least: 200000}, ""},
		{"load: above it, and one more", load(0), 1, guard.Now{Load: 1, Threads: 7, Most: 3, Least: 200000}, "load"},
		{"load: a part of one more", load(0), 1, guard.Now{Load: 1, Threads: 7, Most: 3, Least: 233334}, ""},
		{"load: just less than that", load(0), 1, guard.Now{Load: 1, Threads: 7, Most: 3, Least: 233333}, "load"},
		{"load: all as great as may be", load(0), 1, guard.Now{Load: most, Threads: most, Most: most, Least: most}, ""},
	}
	for _, x := range tests {
		isField(t, x.name, x.r, x.n, x.now, x.want)
	}
}

// P16.1: of several fields that block it is the first one, in the order of the document.
func TestFirstField(t *testing.T) {
	fields := []struct {
		name string
		ask  func(r *api.System)
	}{
		{"qps", func(r *api.System) { r.Qps = 0 }},
		{"threads", func(r *api.System) { r.Threads = 0 }},
		{"rt", func(r *api.System) { r.Rt = 0 }},
		{"load", func(r *api.System) { r.Load = 0 }},
		{"cpu", func(r *api.System) { r.Cpu = 0 }},
	}
	for set := range 1 << len(fields) {
		r, want := none, ""
		for i, f := range fields {
			if set>>i&1 == 1 {
				f.ask(&r)
				if want == "" {
					want = f.name
				}
			}
		}
		isField(t, "all is busy", r, 1, busy, want)
		isField(t, "nothing asked", none, 1, busy, "")
	}
}

// wrongNow are what may not be so, a field each, below 0 and above 2^62.
func wrongNow() []guard.Now {
	var l []guard.Now
	for _, n := range []int{-1, math.MinInt, most + 1, math.MaxInt} {
		l = append(l, guard.Now{Qps: n}, guard.Now{Threads: n}, guard.Now{Rt: n}, guard.Now{Load: n}, guard.Now{Cpu: n}, guard.Now{Most: n}, guard.Now{Least: n})
	}
	return l
}

// wrongSystems are rules that are not right, a field each.
func wrongSystems() []api.System {
	var l []api.System
	for _, n := range []int{-2, math.MinInt, api.MaxCount + 1, math.MaxInt} {
		l = append(l, qps(n), threads(n), rt(n), load(n), cpu(n))
	}
	return l
}

func wrongCounts() []int { return []int{0, -1, math.MinInt, api.MaxCount + 1, math.MaxInt} }

// P16.1: what may not be does not pass, by its form, also where nothing is asked, or another field would block.
func TestForm(t *testing.T) {
	for _, r := range []api.System{none, {}, qps(0), load(0)} {
		for _, now := range wrongNow() {
			isField(t, "a wrong now", r, 1, now, "form")
		}
		for _, n := range wrongCounts() {
			isField(t, "a wrong count", r, n, guard.Now{}, "form")
			isField(t, "a wrong count", r, n, busy, "form")
		}
	}
	for _, r := range wrongSystems() {
		isField(t, "a wrong rule", r, 1, guard.Now{}, "form")
		r.Qps = max(r.Qps, r.Threads, r.Rt, r.Load, r.Cpu, api.MaxCount+1)
		isField(t, "a wrong rule", r, 1, busy, "form")
	}
	isField(t, "all as great as may be", none, api.MaxCount, guard.Now{Qps: most, Threads: most, Rt: most, Load: most, Cpu: most, Most: most, Least: most}, "")
	isField(t, "the greatest rule", api.System{Qps: api.MaxCount, Threads: api.MaxCount, Rt: api.MaxCount, Load: api.MaxCount, Cpu: api.MaxCount}, api.MaxCount, guard.Now{}, "")
}

// P16.1: Systems is the first of several that blocks, or how many there are.
func TestSystems(t *testing.T) {
	now := guard.Now{Qps: 8, Threads: 5, Rt: 70, Load: 1500, Cpu: 300}
	tests := []struct {
		name   string
		l      []api.System
		n      int
		number int
		passes bool
	}{
		{"none", nil, 1, 0, true},
		{"none, of a list that is empty", []api.System{}, 1, 0, true},
		{"all pass", []api.System{qps(10), none, cpu(300)}, 2, 3, true},
		{"the first one blocks", []api.System{qps(10), none, cpu(0)}, 3, 0, false},
		{"the second one, and the third one too", []api.System{qps(10), cpu(0), rt(0)}, 1, 1, false},
		{"the last one", []api.System{qps(10), none, none, load(1499)}, 1, 3, false},
		{"any of its fields", []api.System{none, {Qps: 10, Threads: 6, Rt: 70, Load: 1500, Cpu: 299}}, 2, 1, false},
		{"no field of it", []api.System{none, {Qps: 10, Threads: 6, Rt: 70, Load: 1500, Cpu: 300}}, 2, 2, true},
	}
	for _, x := range tests {
		was := slices.Clone(x.l)
		if i, passes, err := guard.Systems(x.l, x.n, now); i != x.number || passes != x.passes || err != api.OK {
			t.Errorf("%s: %d, %v, %v, want %d, %v", x.name, i, passes, err, x.number, x.passes)
		}
		if !slices.Equal(x.l, was) {
			t.Errorf("%s: the rules became %v", x.name, x.l)
		}
	}
}

// P16.1: Systems' errors, in their order: how many times there is a now, the rules, the count and the now; also where nothing, or a rule ahead, would block.
func TestSystemsErrors(t *testing.T) {
	right, wrong := guard.Now{}, guard.Now{Most: -1}
	bad := []api.System{qps(0), none, rt(-2)}
	tests := []struct {
		name string
		l    []api.System
		n    int
		now  []guard.Now
		err  api.Errno
	}{
		{"no now", []api.System{none}, 1, nil, api.ErrForm},
		{"no now, and no rules", nil, 1, nil, api.ErrForm},
		{"two", []api.System{none}, 1, []guard.Now{right, right}, api.ErrForm},
		{"three, and all is wrong", bad, 0, []guard.Now{wrong, wrong, wrong}, api.ErrForm},
		{"no now, and all is wrong", bad, 0, nil, api.ErrForm},
		{"a wrong rule behind one that blocks", bad, 1, []guard.Now{right}, api.ErrSystem},
		{"a wrong rule, count, now", bad, 0, []guard.Now{wrong}, api.ErrSystem},
		{"a wrong count, and no rules", nil, 0, []guard.Now{right}, api.ErrRange},
		{"a wrong now, and no rules", nil, 1, []guard.Now{wrong}, api.ErrRange},
		{"a wrong now, and a rule that blocks", []api.System{qps(0)}, 1, []guard.Now{wrong}, api.ErrRange},
	}
	for _, now := range wrongNow() {
		tests = append(tests, tests[8], tests[9])
		tests[len(tests)-1].now, tests[len(tests)-2].now = []guard.Now{now}, []guard.Now{now}
	}
	for _, n := range wrongCounts() {
		tests = append(tests, tests[7])
		tests[len(tests)-1].n = n
	}
	for _, r := range wrongSystems() {
		tests = append(tests, tests[5])
		tests[len(tests)-1].l = []api.System{none, r}
	}
	for _, x := range tests {
		if i, passes, err := guard.Systems(x.l, x.n, x.now...); i != 0 || passes || err != x.err {
			t.Errorf("%s: %v, %d, %+v: %d, %v, %v, want %v", x.name, x.l, x.n, x.now, i, passes, err, x.err)
		}
	}
}
