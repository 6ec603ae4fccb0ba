package hot_test

import (
	"math"
	"slices"
	"strings"
	"testing"

	"spillway/api"
	"spillway/hot"
	"spillway/rules"
)

// three is three tokens a second.
var three = api.Hot{Resource: "a", Count: 3, Seconds: 1}

func hotOf(t *testing.T, r api.Hot, keys int, seed uint64) *hot.Hot {
	t.Helper()
	h, err := hot.New(r, keys, seed)
	if err != api.OK || h == nil {
		t.Fatalf("New(%+v, %d, %d): %v, %v", r, keys, seed, h, err)
	}
	return h
}

// take takes at a time that may be, and tells whether it passed.
func take(t *testing.T, h *hot.Hot, at int, value string, count int) bool {
	t.Helper()
	passes, err := h.Take(at, value, count)
	if err != api.OK {
		t.Fatalf("Take(%d, %q, %d) = %v, %v", at, value, count, passes, err)
	}
	return passes
}

// uses holds what counts as used of a value at a time against what is wanted.
func uses(t *testing.T, name string, h *hot.Hot, at int, value string, want int) {
	t.Helper()
	if got, err := h.Used(at, value); got != want || err != api.OK {
		t.Errorf("%s: Used(%d, %q) = %d, %v, want %d", name, at, value, got, err, want)
	}
}

func keeps(t *testing.T, name string, h *hot.Hot, want ...string) {
	t.Helper()
	if got := h.Kept(); !slices.Equal(got, want) {
		t.Errorf("%s: Kept = %q, want %q", name, got, want)
	}
}

// answer is what Look and Take answer.
type answer struct {
	passes bool
	err    api.Errno
}

func of(passes bool, err api.Errno) answer { return answer{passes, err} }

// P15.1: New has rules.Hot's errors, then ErrRange of keys; else nothing was taken.
func TestNew(t *testing.T) {
	with := func(change func(r *api.Hot)) api.Hot {
		r := three
		change(&r)
		return r
	}
	tests := []struct {
		r    api.Hot
		keys int
		err  api.Errno
	}{
		{three, 1, api.OK},
		{three, api.MaxKeys, api.OK},
		{api.Hot{Resource: "a", Index: api.MaxArgs - 1, Count: api.MaxCount, Seconds: 60, Items: []api.Item{{Value: "", Count: 0}, {Value: "vip", Count: api.MaxCount}}}, 7, api.OK},
		{three, 0, api.ErrRange},
		{three, -1, api.ErrRange},
		{three, math.MinInt, api.ErrRange},
		{three, api.MaxKeys + 1, api.ErrRange},
		{three, math.MaxInt, api.ErrRange},
		{with(func(r *api.Hot) { r.Resource = "" }), 1, api.ErrName},
		{with(func(r *api.Hot) { r.Resource = "a b" }), 0, api.ErrName},
		{with(func(r *api.Hot) { r.Count = -1 }), 1, api.ErrHot},
		{with(func(r *api.Hot) { r.Count = api.MaxCount + 1 }), 0, api.ErrHot},
		{with(func(r *api.Hot) { r.Index = api.MaxArgs }), 1, api.ErrHot},
		{with(func(r *api.Hot) { r.Seconds = 0 }), 1, api.ErrHot},
		{with(func(r *api.Hot) { r.Seconds = 61 }), api.MaxKeys + 1, api.ErrHot},
		{with(func(r *api.Hot) { r.Items = []api.Item{{Value: "x"}, {Value: "x"}} }), 1, api.ErrHot},
		{with(func(r *api.Hot) { r.Items = []api.Item{{Value: "x", Count: -1}} }), 1, api.ErrHot},
	}
	for _, x := range tests {
		h, err := hot.New(x.r, x.keys, 5)
		if err != x.err || (h == nil) != (err != api.OK) {
			t.Errorf("New(%+v, %d) = %v, %v, want %v", x.r, x.keys, h, err, x.err)
		}
		if of := rules.Hot(x.r); of != api.OK && err != of {
			t.Errorf("New(%+v, %d): %v, where rules.Hot says %v", x.r, x.keys, err, of)
		}
		if x.err != api.OK {
			continue
		}
		keeps(t, "a new one", h)
		for _, at := range []int{0, 1, api.MaxTime, 0} {
			for _, value := range []string{"", "a", "vip"} {
				uses(t, "a new one", h, at, value, 0)
			}
		}
	}
}

// Chapter 15, example 1; and DOC.md's 6: three of a value, and a hundred of one with a count of its own.
func TestExamples(t *testing.T) {
	h := hotOf(t, api.Hot{Resource: "a", Count: 3, Seconds: 1, Items: []api.Item{{Value: "vip", Count: 100}}}, 10, 1)
	for i := range 4 {
		if got := take(t, h, 0, "a", 1); got != (i < 3) {
			t.Errorf("a, call %d: %v", i, got)
		}
	}
	if !take(t, h, 0, "b", 1) {
		t.Error("b does not pass")
	}
	for i := range 101 {
		if got := take(t, h, 0, "vip", 1); got != (i < 100) {
			t.Errorf("vip, call %d: %v", i, got)
		}
	}
}

// items are values, each with its count behind it.
func items(l ...any) []api.Item {
	var all []api.Item
	for pair := range slices.Chunk(l, 2) {
		all = append(all, api.Item{Value: pair[0].(string), Count: pair[1].(int)})
	}
	return all
}

// P15.1: Limit is the item's Count, also one of 0, or the rule's; of any text.
func TestLimit(t *testing.T) {
	long := strings.Repeat("x", api.MaxName)
	r := api.Hot{Resource: "a", Count: 3, Seconds: 1, Items: items("vip", 100, "none", 0, "", 7, long, api.MaxCount)}
	h := hotOf(t, r, 2, 1)
	for value, want := range map[string]int{"vip": 100, "none": 0, "": 7, long: api.MaxCount, "a": 3, "VIP": 3, "vip ": 3, long + "x": 3, "\x00\xff": 3} {
		for name, h := range map[string]*hot.Hot{"it": h, "its fork": h.Fork()} {
			if got := h.Limit(value); got != want {
				t.Errorf("%s: Limit(%q) = %d, want %d", name, value, got, want)
			}
		}
		if len(value) > api.MaxName {
			continue
		}
		if got := of(h.Look(0, value, max(want, 1))); got != of(want > 0, api.OK) {
			t.Errorf("Look of all of %q: %v", value, got)
		}
		if got := of(h.Look(0, value, min(want+1, api.MaxCount))); got != of(want == api.MaxCount, api.OK) {
			t.Errorf("Look of one more than all of %q: %v", value, got)
		}
	}
}

// P15.2: tokens of any number are taken together, or not at all; they count till their bucket leaves the window, as wide as the rule's Seconds.
func TestTake(t *testing.T) {
	for _, seconds := range []int{1, 7, 60} {
		h := hotOf(t, api.Hot{Resource: "a", Count: 10, Seconds: seconds}, 5, 1)
		bucket := seconds * second / 10
		steps := []struct {
			name   string
			at     int
			count  int
			passes bool
			used   int
		}{
			{"some", bucket - 1, 4, true, 4},
			{"just more than are left", bucket - 1, 7, false, 4},
			{"all that there are", bucket - 1, api.MaxCount, false, 4},
			{"in the next bucket", bucket, 5, true, 9},
			{"more than are left", bucket, 2, false, 9},
			{"what is left", 2 * bucket, 1, true, 10},
			{"nothing is left", 10*bucket - 1, 1, false, 10},
			{"the first bucket is out, but not so much", 10 * bucket, 5, false, 6},
			{"the first bucket is out", 10 * bucket, 4, true, 10},
			{"the second one is not", 11*bucket - 1, 1, false, 10},
			{"the second one is", 11 * bucket, 5, true, 10},
			{"all but the last ones are", 20*bucket - 1, 1, true, 10},
			{"all are", 29 * bucket, 10, true, 10},
			{"at the end of all times", api.MaxTime, 11, false, 0},
			{"just all, at the end of all times", api.MaxTime, 10, true, 10},
		}
		for _, x := range steps {
			if got := of(h.Look(x.at, "v", x.count)); got != of(x.passes, api.OK) {
				t.Errorf("%d seconds, %s: Look: %v", seconds, x.name, got)
			}
			if got := take(t, h, x.at, "v", x.count); got != x.passes {
				t.Errorf("%d seconds, %s: Take: %v", seconds, x.name, got)
			}
			uses(t, x.name, h, x.at, "v", x.used)
		}
	}
}

// P15.1, P15.2: what passes is kept, and touched; what does not pass, and what is looked at, is neither.
func TestKept(t *testing.T) {
	h := hotOf(t, three, 3, 1)
	steps := []struct {
		value  string
		count  int
		passes bool
		kept   string
	}{
		{"x", 4, false, ""}, {"x", 3, true, "x"}, {"y", 1, true, "xy"}, {"", 1, true, "xy-"},
		{"x", 1, false, "xy-"}, {"y", 1, true, "x-y"}, {"z", 4, false, "x-y"}, {"z", 1, true, "-yz"},
		{"", 2, true, "yz-"}, {"", 1, false, "yz-"}, {"x", 1, false, "yz-"}, {"u", 1, true, "z-u"}, {"v", 1, true, "-uv"}, {"w", 1, true, "uvw"},
	}
	for i, x := range steps {
		var was []string
		if i > 0 {
			was = names(steps[i-1].kept)
		}
		for _, value := range []string{x.value, "x", "y", "nobody"} {
			h.Used(i, value)
			h.Look(i, value, 1)
			h.Look(i, value, 100)
			h.Limit(value)
		}
		keeps(t, "looked at", h, was...)
		if got := take(t, h, i, x.value, x.count); got != x.passes {
			t.Errorf("step %d: Take(%q, %d): %v", i, x.value, x.count, got)
		}
		keeps(t, "taken", h, names(x.kept)...)
	}
}

// names are values of a letter each; a stroke is the empty one.
func names(s string) []string {
	var l []string
	for _, c := range s {
		l = append(l, strings.Trim(string(c), "-"))
	}
	return l
}

// P15.1, P15.2: as many values are kept as keys say, and no more.
func TestKeys(t *testing.T) {
	for _, keys := range []int{1, 2, 100, api.MaxKeys} {
		h := hotOf(t, api.Hot{Resource: "a", Count: api.MaxCount, Seconds: 1}, keys, 1)
		var all []string
		for i := range keys + 3 {
			all = append(all, strings.Repeat("k", i%50)+string(rune('A'+i/50)))
			take(t, h, i, all[i], 1)
			if got := h.Kept(); len(got) != min(i+1, keys) || got[len(got)-1] != all[i] {
				t.Fatalf("of %d keys behind %d: %d, the last one %q", keys, i+1, len(got), got[len(got)-1])
			}
		}
		if got := h.Kept(); !slices.Equal(got, all[3:]) {
			t.Errorf("of %d keys: %q ...", keys, got[:1])
		}
	}
}

// P15.2, P15.3: a value that went counts by the sketch; when it is kept again, what counted as used counts on from that time.
func TestGoneAndBack(t *testing.T) {
	h := hotOf(t, three, 1, 1)
	take(t, h, 0, "x", 2)
	take(t, h, 500000, "y", 1)
	keeps(t, "y came", h, "y")
	uses(t, "x went", h, 500000, "x", 2)
	if take(t, h, 500000, "x", 2) || !take(t, h, 899999, "x", 1) {
		t.Error("x has one left")
	}
	keeps(t, "x came back", h, "x")
	uses(t, "x came back", h, 899999, "x", 3)
	uses(t, "what counted counts on", h, 1000000, "x", 3)
	uses(t, "what counted counts on", h, 1799999, "x", 3)
	uses(t, "its bucket is out", h, 1800000, "x", 0)
	take(t, h, 1000000, "y", 1)
	uses(t, "x went again: the sketch knows when it was taken", h, 1000000, "x", 1)
	uses(t, "y is kept: what the sketch told of it then, and one", h, 1499999, "y", 2)
	uses(t, "y is kept: what the sketch told of it then, and one", h, 1999999, "y", 2)
	uses(t, "all is out", h, 2000000, "y", 0)
	take(t, h, 2000000, "z", 3)
	uses(t, "y went, and nothing of it is left", h, 2000000, "y", 0)
	take(t, h, 2000000, "y", 3)
	uses(t, "y came back with nothing", h, 2000000, "y", 3)
	uses(t, "z is out again", h, 2899999, "z", 3)
}

// P15.2: Used and Look note nothing; Take notes its time, whether it passes or not.
func TestNoted(t *testing.T) {
	h := hotOf(t, three, 2, 1)
	for i, count := range []int{1, 4, 2, 1, 3} { // the second and the fourth one do not pass
		at := (i + 1) * 100000
		for _, late := range []int{at + 5, api.MaxTime, at} {
			h.Used(late, "v")
			h.Look(late, "v", 1)
			h.Look(late, "v", 100)
		}
		if got := take(t, h, at, "v", count); got != (i == 0 || i == 2) {
			t.Errorf("Take of %d at %d: %v", count, at, got)
		}
		for _, value := range []string{"v", "other"} {
			if n, err := h.Used(at-1, value); n != 0 || err != api.ErrBack {
				t.Errorf("Used(%d, %q) behind %d: %d, %v", at-1, value, at, n, err)
			}
			if got := of(h.Look(at-1, value, 1)); got != of(false, api.ErrBack) {
				t.Errorf("Look(%d, %q) behind %d: %v", at-1, value, at, got)
			}
			if got := of(h.Take(at-1, value, 1)); got != of(false, api.ErrBack) {
				t.Errorf("Take(%d, %q) behind %d: %v", at-1, value, at, got)
			}
			if _, err := h.Used(at, value); err != api.OK {
				t.Errorf("Used(%d, %q) at the noted time: %v", at, value, err)
			}
		}
	}
}
