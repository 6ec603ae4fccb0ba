package rules_test

import (
	"math"
	"math/rand"
	"reflect"
	"slices"
	"strconv"
	"testing"

	"spillway/api"
	"spillway/rules"
)

// all are rules of each kind, two of a kind.
func all() api.Rules {
	f, b, h, l := related(), breaker(), hot(), list()
	f.Resource, b.Resource, h.Resource, l.Resource = "f", "b", "h", "l"
	return api.Rules{
		Flows:   []api.Flow{flow(), f},
		Breaks:  []api.Break{breaker(), b},
		Hots:    []api.Hot{hot(), h},
		Systems: []api.System{system(), {}},
		Lists:   []api.Authority{list(), l},
	}
}

// many are so many rules of each kind that are right.
func many(flows, breaks, hots, systems, lists int) api.Rules {
	var r api.Rules
	for range flows {
		r.Flows = append(r.Flows, flow())
	}
	for range breaks {
		r.Breaks = append(r.Breaks, breaker())
	}
	for range hots {
		r.Hots = append(r.Hots, hot())
	}
	for range systems {
		r.Systems = append(r.Systems, system())
	}
	for range lists {
		r.Lists = append(r.Lists, list())
	}
	return r
}

type found struct {
	kind   api.RuleKind
	number int
	err    api.Errno
}

func where(r api.Rules) found {
	kind, number, err := rules.Where(r)
	return found{kind, number, err}
}

// spoil lets the rules of these kinds at a number be wrong.
func spoil(r api.Rules, number int, kinds ...api.RuleKind) api.Rules {
	r = rules.Copy(r)
	for _, k := range kinds {
		switch k {
		case api.FlowRule:
			r.Flows[number].Count = -1
		case api.BreakRule:
			r.Breaks[number].Least = 0
		case api.HotRule:
			r.Hots[number].Seconds = 0
		case api.SystemRule:
			r.Systems[number].Rt = -2
		case api.ListRule:
			r.Lists[number].Origins = nil
		}
	}
	return r
}

// P7.1: Where names too many ahead of all else, then the first that is wrong: by kinds, then by numbers.
func TestWhere(t *testing.T) {
	kinds := []api.RuleKind{api.FlowRule, api.BreakRule, api.HotRule, api.SystemRule, api.ListRule}
	errs := []api.Errno{api.ErrFlow, api.ErrBreak, api.ErrHot, api.ErrSystem, api.ErrList}
	named := all()
	named.Breaks[1].Resource, named.Hots[0].Index = "", 9
	brief, soon := many(1, 3, 0, 0, 1), many(0, 3, 1, 0, 0)
	brief.Breaks[2].Window, brief.Lists[0].Origins = 999999, nil
	soon.Breaks[1].Recover, soon.Breaks[2].Window = 1, 1
	tests := []struct {
		name string
		r    api.Rules
		want found
	}{
		{"none", api.Rules{}, found{}},
		{"all", all(), found{}},
		{"as many as may be", many(256, 256, 256, 256, 256), found{}},
		{"too many flows", many(257, 0, 0, 0, 0), found{api.FlowRule, 0, api.ErrLong}},
		{"too many breaks", many(1, 257, 257, 257, 257), found{api.BreakRule, 0, api.ErrLong}},
		{"too many hots", many(1, 1, 257, 257, 257), found{api.HotRule, 0, api.ErrLong}},
		{"too many systems", many(1, 1, 1, 257, 257), found{api.SystemRule, 0, api.ErrLong}},
		{"too many lists", many(0, 0, 0, 0, 257), found{api.ListRule, 0, api.ErrLong}},
		{"too many behind some that are wrong", spoil(many(3, 3, 3, 3, 257), 2, kinds...), found{api.ListRule, 0, api.ErrLong}},
		{"a name", named, found{api.BreakRule, 1, api.ErrName}},
		{"a Window below a second", brief, found{api.BreakRule, 2, api.ErrBreak}},
		{"a Recover below a second", soon, found{api.BreakRule, 1, api.ErrBreak}},
		{"the last of all", spoil(many(256, 256, 256, 256, 256), 255, api.ListRule), found{api.ListRule, 255, api.ErrList}},
	}
	for i, k := range kinds {
		for number := range 3 {
			tests = append(tests, struct {
				name string
				r    api.Rules
				want found
			}{"kind " + strconv.Itoa(int(k)), spoil(spoil(many(3, 3, 3, 3, 3), number, kinds[i:]...), 2, kinds[i:]...), found{k, number, errs[i]}})
		}
	}
	for _, x := range tests {
		if got := where(x.r); got != x.want {
			t.Errorf("%s: %v, want %v", x.name, got, x.want)
		}
	}
}

// roomy is the same rules, with something in the room behind each list.
func roomy(r api.Rules) api.Rules {
	r = rules.Copy(r)
	for i := range r.Hots {
		r.Hots[i].Items = append(slices.Grow(r.Hots[i].Items, 4), api.Item{Value: "behind"})[:len(r.Hots[i].Items)]
	}
	for i := range r.Lists {
		r.Lists[i].Origins = append(slices.Grow(r.Lists[i].Origins, 4), "behind")[:len(r.Lists[i].Origins)]
	}
	r.Flows = append(slices.Grow(r.Flows, 4), api.Flow{Resource: "behind"})[:len(r.Flows)]
	r.Breaks = append(slices.Grow(r.Breaks, 4), api.Break{Resource: "behind"})[:len(r.Breaks)]
	r.Hots = append(slices.Grow(r.Hots, 4), api.Hot{Resource: "behind"})[:len(r.Hots)]
	r.Systems = append(slices.Grow(r.Systems, 4), api.System{Qps: 77})[:len(r.Systems)]
	r.Lists = append(slices.Grow(r.Lists, 4), api.Authority{Resource: "behind"})[:len(r.Lists)]
	return r
}

// behind tells whether what stands in the room behind the lists of roomy rules is as it was.
func behind(r api.Rules) bool {
	next := func(l []api.Item) string { return l[:len(l)+1][len(l)].Value }
	for _, h := range r.Hots {
		if next(h.Items) != "behind" {
			return false
		}
	}
	for _, a := range r.Lists {
		if l := a.Origins; l[:len(l)+1][len(l)] != "behind" {
			return false
		}
	}
	n := len(r.Flows)
	return r.Flows[:n+1][n].Resource == "behind" && r.Breaks[:n+1][n].Resource == "behind" && r.Hots[:n+1][n].Resource == "behind" &&
		r.Systems[:n+1][n].Qps == 77 && r.Lists[:n+1][n].Resource == "behind"
}

// scratch writes over all that rules have, and over the room behind.
func scratch(r api.Rules) {
	for _, h := range r.Hots {
		clear(h.Items[:cap(h.Items)])
	}
	for _, a := range r.Lists {
		clear(a.Origins[:cap(a.Origins)])
	}
	clear(r.Flows[:cap(r.Flows)])
	clear(r.Breaks[:cap(r.Breaks)])
	clear(r.Hots[:cap(r.Hots)])
	clear(r.Systems[:cap(r.Systems)])
	clear(r.Lists[:cap(r.Lists)])
}

// P7.2, P3: a copy is the same, has lists of its own, and leaves what it is of as it was.
func TestCopy(t *testing.T) {
	r := roomy(all())
	c := rules.Copy(r)
	if !reflect.DeepEqual(c, all()) || !rules.Same(c, r) {
		t.Fatalf("%+v, want %+v", c, all())
	}
	scratch(c)
	if !reflect.DeepEqual(r, all()) || !behind(r) {
		t.Errorf("writing into the copy changed what it is of: %+v", r)
	}
	c = rules.Copy(r)
	scratch(r)
	if !reflect.DeepEqual(c, all()) {
		t.Errorf("writing into what it is of changed the copy: %+v", c)
	}
	if !rules.Same(rules.Copy(api.Rules{}), api.Rules{}) {
		t.Error("a copy of none")
	}
}

// differences are all, each with one thing that is another one.
func differences() map[string]api.Rules {
	changes := map[string]func(r *api.Rules){
		"Flow.Resource":  func(r *api.Rules) { r.Flows[1].Resource = "z" },
		"Flow.Origin":    func(r *api.Rules) { r.Flows[1].Origin = "z" },
		"Flow.Threads":   func(r *api.Rules) { r.Flows[1].Threads = true },
		"Flow.Count":     func(r *api.Rules) { r.Flows[1].Count++ },
		"Flow.Strategy":  func(r *api.Rules) { r.Flows[1].Strategy = api.Chain },
		"Flow.Ref":       func(r *api.Rules) { r.Flows[1].Ref = "z" },
		"Flow.Shape":     func(r *api.Rules) { r.Flows[1].Shape = api.Pace },
		"Flow.Warm":      func(r *api.Rules) { r.Flows[1].Warm++ },
		"Flow.Queue":     func(r *api.Rules) { r.Flows[1].Queue++ },
		"Flow.Cluster":   func(r *api.Rules) { r.Flows[1].Cluster = true },
		"Flow.Id":        func(r *api.Rules) { r.Flows[1].Id++ },
		"Flow.Fallback":  func(r *api.Rules) { r.Flows[1].Fallback = true },
		"Break.Resource": func(r *api.Rules) { r.Breaks[1].Resource = "z" },
		"Break.Grade":    func(r *api.Rules) { r.Breaks[1].Grade++ },
		"Break.Count":    func(r *api.Rules) { r.Breaks[1].Count++ },
		"Break.Slow":     func(r *api.Rules) { r.Breaks[1].Slow++ },
		"Break.Least":    func(r *api.Rules) { r.Breaks[1].Least++ },
		"Break.Window":   func(r *api.Rules) { r.Breaks[1].Window++ },
		"Break.Recover":  func(r *api.Rules) { r.Breaks[1].Recover++ },
		"Hot.Resource":   func(r *api.Rules) { r.Hots[1].Resource = "z" },
		"Hot.Index":      func(r *api.Rules) { r.Hots[1].Index++ },
		"Hot.Count":      func(r *api.Rules) { r.Hots[1].Count++ },
		"Hot.Seconds":    func(r *api.Rules) { r.Hots[1].Seconds++ },
		"Item.Value":     func(r *api.Rules) { r.Hots[1].Items[1].Value = "z" },
		"Item.Count":     func(r *api.Rules) { r.Hots[1].Items[1].Count++ },
		"Items fewer":    func(r *api.Rules) { r.Hots[1].Items = r.Hots[1].Items[:1] },
		"Items more":     func(r *api.Rules) { r.Hots[1].Items = append(r.Hots[1].Items, api.Item{}) },
		"Items turned":   func(r *api.Rules) { slices.Reverse(r.Hots[1].Items) },
		"Qps":            func(r *api.Rules) { r.Systems[1].Qps++ },
		"Threads":        func(r *api.Rules) { r.Systems[1].Threads++ },
		"Rt":             func(r *api.Rules) { r.Systems[1].Rt++ },
		"Load":           func(r *api.Rules) { r.Systems[1].Load++ },
		"Cpu":            func(r *api.Rules) { r.Systems[1].Cpu++ },
		"List.Resource":  func(r *api.Rules) { r.Lists[1].Resource = "z" },
		"List.White":     func(r *api.Rules) { r.Lists[1].White = true },
		"Origins":        func(r *api.Rules) { r.Lists[1].Origins[1] = "z" },
		"Origins fewer":  func(r *api.Rules) { r.Lists[1].Origins = r.Lists[1].Origins[:1] },
		"Origins turned": func(r *api.Rules) { slices.Reverse(r.Lists[1].Origins) },
		"Flows fewer":    func(r *api.Rules) { r.Flows = r.Flows[:1] },
		"Breaks fewer":   func(r *api.Rules) { r.Breaks = r.Breaks[:1] },
		"Hots fewer":     func(r *api.Rules) { r.Hots = r.Hots[:1] },
		"Systems fewer":  func(r *api.Rules) { r.Systems = r.Systems[:1] },
		"Lists fewer":    func(r *api.Rules) { r.Lists = nil },
		"Flows turned":   func(r *api.Rules) { slices.Reverse(r.Flows) },
		"Breaks turned":  func(r *api.Rules) { slices.Reverse(r.Breaks) },
		"Hots turned":    func(r *api.Rules) { slices.Reverse(r.Hots) },
		"Systems turned": func(r *api.Rules) { slices.Reverse(r.Systems) },
		"Lists turned":   func(r *api.Rules) { slices.Reverse(r.Lists) },
	}
	m := map[string]api.Rules{}
	for name, change := range changes {
		r := all()
		change(&r)
		m[name] = r
	}
	return m
}

// P7.2: rules are the same, if all they have is, in order.
func TestSame(t *testing.T) {
	if !rules.Same(all(), all()) || !rules.Same(api.Rules{}, api.Rules{}) || rules.Same(all(), api.Rules{}) {
		t.Error("all, and none")
	}
	for name, r := range differences() {
		if rules.Same(r, all()) || rules.Same(all(), r) {
			t.Errorf("%s: they are not the same", name)
		}
		if !rules.Same(r, rules.Copy(r)) {
			t.Errorf("%s: a copy is the same", name)
		}
	}
	empty := api.Rules{Flows: []api.Flow{}, Breaks: []api.Break{}, Hots: []api.Hot{}, Systems: []api.System{}, Lists: []api.Authority{}}
	if !rules.Same(empty, api.Rules{}) || !rules.Same(api.Rules{}, empty) {
		t.Error("a list that is nil is an empty one")
	}
	a := api.Rules{Hots: []api.Hot{{}}, Lists: []api.Authority{{}}}
	b := api.Rules{Hots: []api.Hot{{Items: []api.Item{}}}, Lists: []api.Authority{{Origins: []string{}}}}
	if !rules.Same(a, b) || !rules.Same(b, a) {
		t.Error("a list in a rule that is nil is an empty one")
	}
}

// P7.2, P3: Join lays the rules of each kind one behind the other, in lists of its own.
func TestJoin(t *testing.T) {
	if !rules.Same(rules.Join(), api.Rules{}) || !rules.Same(rules.Join(api.Rules{}, api.Rules{}), api.Rules{}) {
		t.Error("of none")
	}
	one, two := roomy(all()), roomy(many(1, 1, 1, 1, 1))
	got := rules.Join(one, api.Rules{}, two, one)
	var want api.Rules
	for _, r := range []api.Rules{all(), many(1, 1, 1, 1, 1), all()} {
		want.Flows = append(want.Flows, r.Flows...)
		want.Breaks = append(want.Breaks, r.Breaks...)
		want.Hots = append(want.Hots, r.Hots...)
		want.Systems = append(want.Systems, r.Systems...)
		want.Lists = append(want.Lists, r.Lists...)
	}
	if !reflect.DeepEqual(got, want) {
		t.Fatalf("%+v, want %+v", got, want)
	}
	got.Hots[0].Items[0].Value, got.Lists[0].Origins[0] = "z", "z"
	if !reflect.DeepEqual(got.Hots[3], want.Hots[3]) || !reflect.DeepEqual(got.Lists[3], want.Lists[3]) {
		t.Error("two rules of the answer share a list")
	}
	scratch(got)
	if !reflect.DeepEqual(one, all()) || !behind(one) || !behind(two) {
		t.Error("writing into the answer changed what was handed in")
	}
	l := []api.Rules{all(), all()}
	got = rules.Join(l...)
	scratch(got)
	if !rules.Same(l[0], all()) || !rules.Same(l[1], all()) {
		t.Error("writing into the answer changed what was handed in as a list")
	}
}

// P7.2: Of tells the numbers of a resource's rules; of system rules all, of no kind none.
func TestOf(t *testing.T) {
	r := rules.Join(all(), many(1, 1, 1, 1, 1))
	tests := []struct {
		kind     api.RuleKind
		resource string
		want     []int
	}{
		{api.FlowRule, "r", []int{0, 2}},
		{api.FlowRule, "f", []int{1}},
		{api.FlowRule, "b", nil}, // a Ref alone
		{api.FlowRule, "R", nil},
		{api.FlowRule, "", nil},
		{api.BreakRule, "r", []int{0, 2}},
		{api.BreakRule, "b", []int{1}},
		{api.BreakRule, "f", nil},
		{api.HotRule, "r", []int{0, 2}},
		{api.HotRule, "h", []int{1}},
		{api.HotRule, "l", nil},
		{api.SystemRule, "r", []int{0, 1, 2}},
		{api.SystemRule, "", []int{0, 1, 2}},
		{api.ListRule, "r", []int{0, 2}},
		{api.ListRule, "l", []int{1}},
		{api.ListRule, "h", nil},
		{api.NoRule, "r", nil},
		{api.ListRule + 1, "r", nil},
		{255, "r", nil},
	}
	for _, x := range tests {
		if got := rules.Of(r, x.kind, x.resource); !slices.Equal(got, x.want) {
			t.Errorf("Of(%d, %q) = %v, want %v", x.kind, x.resource, got, x.want)
		}
	}
	if got := rules.Of(api.Rules{Flows: []api.Flow{{}}}, api.FlowRule, ""); !slices.Equal(got, []int{0}) {
		t.Errorf("of a rule without a name: %v", got)
	}
	if got := rules.Of(api.Rules{}, api.SystemRule, "r"); len(got) != 0 {
		t.Errorf("of none: %v", got)
	}
}

// P7.2: Resources are the names in order, a flow's Ref behind its Resource, each once.
func TestResources(t *testing.T) {
	f := func(resource, ref string) api.Flow { return api.Flow{Resource: resource, Ref: ref} }
	r := api.Rules{
		Flows:   []api.Flow{f("z", ""), f("y", "c"), f("c", "z"), f("y", "b"), f("a", "a")},
		Breaks:  []api.Break{{Resource: "b"}, {Resource: "q"}},
		Hots:    []api.Hot{{Resource: "p"}, {Resource: "q"}},
		Systems: []api.System{{}},
		Lists:   []api.Authority{{Resource: "o", Origins: []string{"origin"}}, {Resource: "z"}, {Resource: "n"}},
	}
	if got, want := rules.Resources(r), []string{"z", "y", "c", "b", "a", "q", "p", "o", "n"}; !slices.Equal(got, want) {
		t.Errorf("%q, want %q", got, want)
	}
	if got := rules.Resources(api.Rules{Systems: []api.System{{}}}); len(got) != 0 {
		t.Errorf("of none: %q", got)
	}
	if got, want := rules.Resources(all()), []string{"r", "f", "b", "h", "l"}; !slices.Equal(got, want) {
		t.Errorf("%q, want %q", got, want)
	}
}

func of(origins ...string) []api.Flow {
	var l []api.Flow
	for _, o := range origins {
		l = append(l, api.Flow{Resource: "r", Origin: o})
	}
	return l
}

// P7.3: which flow rules concern an origin.
func TestConcerns(t *testing.T) {
	mixed := of("default", "other", "app1", "app2", "other", "default")
	elsewhere := append(of("other"), api.Flow{Resource: "s", Origin: "app1"}, api.Flow{Resource: "s", Origin: "other"})
	tests := []struct {
		name   string
		l      []api.Flow
		origin string
		want   []int
	}{
		{"one with rules of its own", mixed, "app1", []int{0, 2, 5}},
		{"another one", mixed, "app2", []int{0, 3, 5}},
		{"one without", mixed, "app3", []int{0, 1, 4, 5}},
		{"none", mixed, "", []int{0, 1, 4, 5}},
		{"alike but for small letters", mixed, "App1", []int{0, 1, 4, 5}},
		{"default: its rules are nobody's own", mixed, "default", []int{0, 1, 4, 5}},
		{"other: its rules are nobody's own", mixed, "other", []int{0, 1, 4, 5}},
		{"default, without a rule", of("other", "app1"), "default", []int{0}},
		{"rules of another resource", elsewhere, "app1", []int{0, 1}},
		{"rules of another resource, and one that has none", elsewhere, "app2", []int{0, 2}},
		{"a rule without an origin", of("", "other", "default"), "", []int{0, 2}},
		{"no rules", nil, "app1", nil},
	}
	for _, x := range tests {
		var got []int
		for i := -2; i < len(x.l)+3; i++ {
			if rules.Concerns(x.l, i, x.origin) {
				got = append(got, i)
			}
		}
		if !slices.Equal(got, x.want) {
			t.Errorf("%s: %v, want %v", x.name, got, x.want)
		}
	}
	for _, i := range []int{math.MinInt, -1, len(mixed), math.MaxInt} {
		if rules.Concerns(mixed, i, "default") {
			t.Errorf("there is no rule %d", i)
		}
	}
}

// P7.5: each origin is concerned by default's rules, by its own, and by other's just if it has none.
func TestConcernsAll(t *testing.T) {
	r := rand.New(rand.NewSource(7))
	names := []string{"default", "other", "a", "b", "c"}
	for range 3000 {
		var l []api.Flow
		for range r.Intn(7) {
			l = append(l, api.Flow{Resource: names[2+r.Intn(2)], Origin: names[r.Intn(len(names))]})
		}
		for i, f := range l {
			for _, origin := range []string{"a", "b", "c", "d", ""} {
				own := 0
				for _, g := range l {
					if g.Resource == f.Resource && g.Origin == origin {
						own++
					}
				}
				want := f.Origin == "default" || f.Origin == origin || f.Origin == "other" && own == 0
				if got := rules.Concerns(l, i, origin); got != want {
					t.Fatalf("%+v: %d, %q: %v", l, i, origin, got)
				}
			}
		}
	}
}
