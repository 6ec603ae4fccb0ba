package reject_test

import (
	"math"
	"math/big"
	"math/rand"
	"slices"
	"testing"

	"spillway/api"
	"spillway/reject"
	"spillway/rules"
	"spillway/stat"
)

// plain is a rule of the resource a, for everybody, of so many tokens a second.
func plain(count int) api.Flow {
	return api.Flow{Resource: "a", Origin: api.DefaultName, Count: count}
}

var call = api.Call{At: 5, Resource: "a", Context: "main", Origin: "app1", Inbound: true, Count: 2, Args: []string{"x"}}

// P11.1: where a rule looks, by its Strategy, its Origin, its Ref; what is not named stays empty.
func TestWhere(t *testing.T) {
	tests := []struct {
		name string
		rule api.Flow
		want reject.Look
	}{
		{"direct", plain(1), reject.Look{Resource: "a"}},
		{"direct of an origin", api.Flow{Resource: "a", Origin: "app1"}, reject.Look{Resource: "a", Origin: "app1"}},
		{"direct of other", api.Flow{Resource: "a", Origin: api.OtherName}, reject.Look{Resource: "a", Origin: "app1"}},
		{"direct of another one: the call decides", api.Flow{Resource: "b", Origin: "app2"}, reject.Look{Resource: "a", Origin: "app1"}},
		{"direct, with what is not looked at", api.Flow{Resource: "b", Origin: api.DefaultName, Ref: "c", Threads: true, Shape: api.Pace}, reject.Look{Resource: "a"}},
		{"a strategy that is none", api.Flow{Resource: "a", Origin: api.DefaultName, Strategy: 3, Ref: "b"}, reject.Look{Resource: "a"}},
		{"the last strategy that is none", api.Flow{Resource: "a", Origin: "app1", Strategy: 255, Ref: "main"}, reject.Look{Resource: "a", Origin: "app1"}},
		{"relate", api.Flow{Resource: "a", Origin: api.DefaultName, Strategy: api.Relate, Ref: "b"}, reject.Look{Resource: "b"}},
		{"relate of an origin", api.Flow{Resource: "a", Origin: "app1", Strategy: api.Relate, Ref: "b"}, reject.Look{Resource: "b"}},
		{"relate to nothing", api.Flow{Resource: "a", Origin: api.DefaultName, Strategy: api.Relate}, reject.Look{}},
		{"relate to the context's name", api.Flow{Resource: "a", Strategy: api.Relate, Ref: "main"}, reject.Look{Resource: "main"}},
		{"chain", api.Flow{Resource: "a", Origin: api.DefaultName, Strategy: api.Chain, Ref: "main"}, reject.Look{Resource: "a", Context: "main"}},
		{"chain of an origin", api.Flow{Resource: "a", Origin: "app1", Strategy: api.Chain, Ref: "main"}, reject.Look{Resource: "a", Context: "main"}},
		{"chain in another context", api.Flow{Resource: "a", Origin: api.DefaultName, Strategy: api.Chain, Ref: "Main"}, reject.Look{Skip: true}},
		{"chain to the resource's name", api.Flow{Resource: "a", Origin: "app1", Strategy: api.Chain, Ref: "a"}, reject.Look{Skip: true}},
		{"chain to nothing", api.Flow{Resource: "a", Strategy: api.Chain}, reject.Look{Skip: true}},
	}
	for _, x := range tests {
		if got := reject.Where(x.rule, call); got != x.want {
			t.Errorf("%s: Where = %+v, want %+v", x.name, got, x.want)
		}
	}
}

// P11.1, P1: a call without origin or context, and rules and calls that are nothing.
func TestWhereOfNothing(t *testing.T) {
	if got, want := reject.Where(api.Flow{Origin: "app1"}, api.Call{Resource: "a"}), (reject.Look{Resource: "a"}); got != want {
		t.Errorf("without origin: %+v, want %+v", got, want)
	}
	if got, want := reject.Where(api.Flow{Origin: api.DefaultName}, api.Call{Resource: "a", Origin: "app1"}), (reject.Look{Resource: "a"}); got != want {
		t.Errorf("default: %+v, want %+v", got, want)
	}
	if got, want := reject.Where(api.Flow{Strategy: api.Chain}, api.Call{Resource: "a"}), (reject.Look{Resource: "a"}); got != want {
		t.Errorf("chain to no context in none: %+v, want %+v", got, want)
	}
	if got := reject.Where(api.Flow{}, api.Call{}); got != (reject.Look{}) {
		t.Errorf("nothing: %+v", got)
	}
}

// P11.2: by tokens what passed and what comes are together at most Count; what is in flight is not looked at.
func TestPasses(t *testing.T) {
	const most, least = math.MaxInt, math.MinInt
	tests := []struct {
		limit, passed, count int
		want                 bool
	}{
		{10, 0, 1, true}, {10, 9, 1, true}, {10, 10, 1, false}, {10, 8, 2, true}, {10, 9, 2, false}, {10, 0, 11, false},
		{0, 0, 1, false}, {0, 0, 0, true}, {0, -1, 1, true}, {-5, 0, 0, false}, {-5, -3, -2, true},
		{api.MaxCount, api.MaxCount, 0, true}, {api.MaxCount, api.MaxCount, 1, false},
		{most, most, 0, true}, {most, most, 1, false}, {most, most, most, false}, {most, 1, most, false}, {most, most - 1, 1, true},
		{10, most, 1, false}, {10, 1, most, false}, {least, most, most, false},
		{least, least, 0, true}, {least, least, -1, true}, {least, -1, least, true}, {least, least, 1, false}, {10, least, least, true}, {least, least, most, false}, {-1, least, most, true}, {-2, most, least, false},
	}
	for _, x := range tests {
		for _, flight := range []int{least, -1, 0, x.limit, most} {
			if got := reject.Passes(plain(x.limit), x.passed, flight, x.count); got != x.want {
				t.Errorf("Passes(%d; %d, %d, %d) = %v, want %v", x.limit, x.passed, flight, x.count, got, x.want)
			}
		}
	}
}

// P11.2: with Threads what is in flight is below Count; tokens are not looked at.
func TestPassesThreads(t *testing.T) {
	tests := []struct {
		limit, flight int
		want          bool
	}{
		{1, 0, true}, {1, 1, false}, {1, 2, false}, {0, 0, false}, {0, -1, true}, {3, 2, true}, {3, 3, false},
		{math.MaxInt, math.MaxInt - 1, true}, {math.MaxInt, math.MaxInt, false}, {math.MinInt, math.MinInt, false},
	}
	for _, x := range tests {
		rule := plain(x.limit)
		rule.Threads = true
		for _, tokens := range []int{math.MinInt, 0, 1, math.MaxInt} {
			if got := reject.Passes(rule, tokens, x.flight, tokens); got != x.want {
				t.Errorf("Passes(%d; %d, %d) = %v, want %v", x.limit, tokens, x.flight, got, x.want)
			}
		}
	}
}

// numbers are near limits as often as not.
func number(r *rand.Rand) int {
	edges := []int{math.MinInt, math.MinInt + 1, -1, 0, 1, 2, 10, api.MaxCount, 1 << 62, math.MaxInt - 1, math.MaxInt}
	switch r.Intn(3) {
	case 0:
		return edges[r.Intn(len(edges))]
	case 1:
		return r.Intn(20) - 5
	}
	return int(r.Uint64())
}

// P11.2: exactly, whatever the numbers are: held against sums of any size.
func TestPassesAll(t *testing.T) {
	r := rand.New(rand.NewSource(112))
	for range 20000 {
		limit, passed, flight, count := number(r), number(r), number(r), number(r)
		sum := new(big.Int).Add(big.NewInt(int64(passed)), big.NewInt(int64(count)))
		want := sum.Cmp(big.NewInt(int64(limit))) <= 0
		if got := reject.Passes(plain(limit), passed, flight, count); got != want {
			t.Fatalf("Passes(%d; %d, %d, %d) = %v, want %v", limit, passed, flight, count, got, want)
		}
	}
}

// P11.4: what passes passes with fewer tokens, with less that passed, and by a rule with a greater Count.
func TestPassesLess(t *testing.T) {
	r := rand.New(rand.NewSource(114))
	less := func(n int) int {
		if m := number(r); m < n {
			return m
		}
		return n
	}
	passed := 0
	for range 20000 {
		rule, past, flight, count := plain(number(r)), number(r), number(r), number(r)
		rule.Threads = r.Intn(2) == 0
		if !reject.Passes(rule, past, flight, count) {
			continue
		}
		passed++
		greater := rule
		greater.Count = max(rule.Count, number(r))
		if !reject.Passes(greater, less(past), less(flight), less(count)) {
			t.Fatalf("%+v lets %d, %d, %d pass, but %+v not less", rule, past, flight, count, greater)
		}
	}
	if passed < 1000 {
		t.Fatalf("only %d passed", passed)
	}
}

// P11.3: Mine of ordinary rules: of the resource, of the origin, in the context.
func TestMine(t *testing.T) {
	l := []api.Flow{
		plain(1),
		{Resource: "b", Origin: api.DefaultName},
		{Resource: "a", Origin: "app1"},
		{Resource: "a", Origin: "app2"},
		{Resource: "a", Origin: api.OtherName},
		{Resource: "a", Origin: api.DefaultName, Strategy: api.Chain, Ref: "main"},
		{Resource: "a", Origin: api.DefaultName, Strategy: api.Chain, Ref: "job"},
		{Resource: "a", Origin: api.DefaultName, Strategy: api.Relate, Ref: "b"},
		{Resource: "b", Origin: api.DefaultName, Strategy: api.Relate, Ref: "a"},
		plain(1),
	}
	tests := []struct {
		resource, context, origin string
		want                      []int
	}{
		{"a", "main", "app1", []int{0, 2, 5, 7, 9}},
		{"a", "job", "app2", []int{0, 3, 6, 7, 9}},
		{"a", "main", "app3", []int{0, 4, 5, 7, 9}},
		{"a", "rest", "", []int{0, 4, 7, 9}},
		{"a", "main", api.OtherName, []int{0, 4, 5, 7, 9}},
		{"b", "main", "app1", []int{1, 8}},
		{"c", "main", "app1", nil},
		{"", "", "", nil},
	}
	for _, x := range tests {
		c := api.Call{Resource: x.resource, Context: x.context, Origin: x.origin}
		if got := reject.Mine(l, c); !slices.Equal(got, x.want) {
			t.Errorf("Mine(%q, %q, %q) = %v, want %v", x.resource, x.context, x.origin, got, x.want)
		}
	}
	if got := reject.Mine(nil, call); len(got) != 0 {
		t.Errorf("Mine of none = %v", got)
	}
	if got := reject.Mine([]api.Flow{{}}, api.Call{}); !slices.Equal(got, []int{0}) {
		t.Errorf("Mine of a rule and a call that are nothing = %v", got) // its Origin is the call's
	}
}

func pick[T any](r *rand.Rand, l ...T) T { return l[r.Intn(len(l))] }

// anyFlows are rules that often concern the same calls.
func anyFlows(r *rand.Rand, resources ...string) []api.Flow {
	l := make([]api.Flow, r.Intn(8))
	for i := range l {
		l[i] = api.Flow{
			Resource: pick(r, resources...),
			Origin:   pick(r, api.DefaultName, api.DefaultName, api.OtherName, "app1", "app2", ""),
			Threads:  r.Intn(4) == 0,
			Count:    number(r),
			Strategy: pick(r, api.Direct, api.Direct, api.Relate, api.Chain, 3),
			Ref:      pick(r, "", "main", "job", "b"),
			Shape:    pick(r, api.Reject, api.Reject, api.Reject, api.WarmUp, api.Pace, api.WarmPace, 4),
		}
	}
	return l
}

func anyCall(r *rand.Rand) api.Call {
	return api.Call{Resource: pick(r, "a", "b", ""), Context: pick(r, "main", "job", ""), Origin: pick(r, "app1", "app2", "app3", "", api.DefaultName, api.OtherName)}
}

// P11.3: Mine of any rules is what the document tells, rule by rule; P3: the rules stay, and so does what was answered.
func TestMineAll(t *testing.T) {
	r := rand.New(rand.NewSource(113))
	for range 5000 {
		l, c := anyFlows(r, "a", "a", "b", ""), anyCall(r)
		was := slices.Clone(l)
		var want []int
		for i, f := range l {
			skips := f.Strategy == api.Chain && f.Ref != c.Context
			if f.Resource == c.Resource && rules.Concerns(l, i, c.Origin) && !skips {
				want = append(want, i)
			}
		}
		got := reject.Mine(l, c)
		if !slices.Equal(got, want) {
			t.Fatalf("Mine(%+v, %+v) = %v, want %v", l, c, got, want)
		}
		for i := range got {
			got[i] = -1
		}
		if !slices.Equal(reject.Mine(l, c), want) || !slices.Equal(l, was) {
			t.Fatalf("Mine(%+v, %+v) does not stay", l, c)
		}
	}
}

// P11.5: rules of other resources among them change nothing of Mine but numbers.
func TestMineAmongOthers(t *testing.T) {
	r := rand.New(rand.NewSource(115))
	for range 3000 {
		l, c := anyFlows(r, "a", "b"), anyCall(r)
		c.Resource = "a"
		var more []api.Flow
		var moved []int // where each of l stands in more
		for _, f := range l {
			more = append(more, anyFlows(r, "b", "c")...)
			moved = append(moved, len(more))
			more = append(more, f)
		}
		var want []int
		for _, i := range reject.Mine(l, c) {
			want = append(want, moved[i])
		}
		if got := reject.Mine(more, c); !slices.Equal(got, want) {
			t.Fatalf("Mine(%+v, %+v) = %v, want %v", more, c, got, want)
		}
	}
}

// P11.3: Least takes only rules that are there, direct, of default, rejecting, by tokens.
func TestLeast(t *testing.T) {
	l := []api.Flow{
		plain(7),
		plain(5),
		{Resource: "a", Origin: "app1", Count: 1},
		{Resource: "a", Origin: api.OtherName, Count: 1},
		{Resource: "a", Origin: api.DefaultName, Count: 1, Threads: true},
		{Resource: "a", Origin: api.DefaultName, Count: 1, Strategy: api.Relate, Ref: "b"},
		{Resource: "a", Origin: api.DefaultName, Count: 1, Strategy: api.Chain, Ref: "main"},
		{Resource: "a", Origin: api.DefaultName, Count: 1, Strategy: 3},
		{Resource: "a", Origin: api.DefaultName, Count: 1, Shape: api.WarmUp},
		{Resource: "a", Origin: api.DefaultName, Count: 1, Shape: api.Pace},
		{Resource: "a", Origin: api.DefaultName, Count: 1, Shape: api.WarmPace},
		{Resource: "a", Origin: api.DefaultName, Count: 1, Shape: 4},
		{Resource: "a", Count: 1},
		{Resource: "b", Origin: api.DefaultName, Count: 3, Cluster: true, Id: 1},
		plain(0),
		plain(math.MinInt),
		plain(math.MaxInt),
	}
	tests := []struct {
		numbers []int
		want    int
		some    bool
	}{
		{nil, 0, false}, {[]int{0}, 7, true}, {[]int{0, 1}, 5, true}, {[]int{1, 0, 1}, 5, true},
		{[]int{2, 3, 4, 5, 6, 7, 8, 9, 10, 11, 12}, 0, false},
		{[]int{2, 3, 4, 5, 6, 7, 8, 9, 10, 11, 12, 0}, 7, true},
		{[]int{-1, len(l), math.MinInt, math.MaxInt}, 0, false}, {[]int{-1, 0, len(l)}, 7, true},
		{[]int{0, 13, 1}, 3, true}, {[]int{14, 0}, 0, true}, {[]int{14}, 0, true}, {[]int{0, 15}, math.MinInt, true}, {[]int{16}, math.MaxInt, true}, {[]int{16, 0}, 7, true},
	}
	for _, x := range tests {
		if got, some := reject.Least(l, x.numbers...); got != x.want || some != x.some {
			t.Errorf("Least(%v) = %d, %v, want %d, %v", x.numbers, got, some, x.want, x.some)
		}
	}
	if got, some := reject.Least(nil, 0); got != 0 || some {
		t.Errorf("Least of none = %d, %v", got, some)
	}
}

// P11.3: Least of any rules and numbers is the smallest of those that count; P3: rules and numbers stay.
func TestLeastAll(t *testing.T) {
	r := rand.New(rand.NewSource(1130))
	for range 5000 {
		l := anyFlows(r, "a", "b")
		numbers := make([]int, r.Intn(6))
		var counts []int
		for i := range numbers {
			numbers[i] = r.Intn(10) - 1
			if numbers[i] < 0 || numbers[i] >= len(l) {
				continue
			}
			f := l[numbers[i]]
			if f.Strategy == api.Direct && f.Origin == api.DefaultName && f.Shape == api.Reject && !f.Threads {
				counts = append(counts, f.Count)
			}
		}
		want := 0
		if len(counts) > 0 {
			want = slices.Min(counts)
		}
		was, asked := slices.Clone(l), slices.Clone(numbers)
		if got, some := reject.Least(l, numbers...); got != want || some != (len(counts) > 0) {
			t.Fatalf("Least(%+v, %v) = %d, %v, want %d of %v", l, numbers, got, some, want, counts)
		}
		if !slices.Equal(l, was) || !slices.Equal(numbers, asked) {
			t.Fatalf("Least(%+v, %v) changes what it was handed", l, numbers)
		}
	}
}

// Chapter 11, example 1: with Relate b's counts decide; with Chain, in the context main alone, a's entries there.
func TestExample(t *testing.T) {
	related := api.Flow{Resource: "a", Origin: api.DefaultName, Strategy: api.Relate, Ref: "b", Count: 5}
	if got := reject.Where(related, call); got != (reject.Look{Resource: "b"}) {
		t.Errorf("Relate looks at %+v", got)
	}
	chained := api.Flow{Resource: "a", Origin: api.DefaultName, Strategy: api.Chain, Ref: "main", Count: 5}
	if got := reject.Where(chained, call); got != (reject.Look{Resource: "a", Context: "main"}) {
		t.Errorf("Chain looks at %+v", got)
	}
	elsewhere := call
	elsewhere.Context = "job"
	if got := reject.Mine([]api.Flow{related, chained}, elsewhere); !slices.Equal(got, []int{0}) {
		t.Errorf("Mine in job = %v", got)
	}
}

// E1: of a rule by tokens at one node, no more than its Count pass in any nine tenths of a second; and what keeps within it is not blocked.
func TestNeverTooFast(t *testing.T) {
	r := rand.New(rand.NewSource(11))
	for round := range 60 {
		rule, node := plain(r.Intn(30)), stat.New()
		type pass struct{ at, n int }
		var passes []pass
		at := r.Intn(3 * api.Second)
		for range 300 {
			at += r.Intn(pick(r, 1, 1000, 50000, 1200000))
			n := 1 + r.Intn(3)
			now, err := node.Sum(at)
			if err != api.OK {
				t.Fatalf("Sum(%d) = %v", at, err)
			}
			if !reject.Passes(rule, now.Pass, node.Flight(), n) {
				continue
			}
			node.Pass(at, n)
			passes = append(passes, pass{at, n})
			sum := 0
			for _, p := range passes {
				if at-p.at < 900000 {
					sum += p.n
				}
			}
			if sum > rule.Count {
				t.Fatalf("round %d: %d pass in nine tenths of a second behind %d, of %d", round, sum, at-900000, rule.Count)
			}
		}
		if len(passes) == 0 && rule.Count >= 3 {
			t.Fatalf("round %d: nothing passes of %d", round, rule.Count)
		}
	}
}

// E3: of a rule by entries, those that are not over are never more than its Count.
func TestNeverTooMany(t *testing.T) {
	rule, node := plain(3), stat.New()
	rule.Threads = true
	for at := range 10 {
		passes := reject.Passes(rule, 1000, node.Flight(), 1000)
		if passes != (at < 3) {
			t.Fatalf("entry %d: %v", at, passes)
		}
		if passes {
			node.Pass(at, 1000)
		}
	}
	node.Done(10, 10, false)
	if !reject.Passes(rule, 1000, node.Flight(), 1000) {
		t.Error("one is over, and yet none passes")
	}
}
