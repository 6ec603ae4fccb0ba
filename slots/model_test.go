package slots_test

import (
	"slices"
	"testing"

	"spillway/api"
	"spillway/breaker"
	"spillway/guard"
	"spillway/hot"
	"spillway/pacing"
	"spillway/reject"
	"spillway/rules"
	"spillway/tree"
	"spillway/warmup"
)

// event is what was noted at all nodes of a call.
type event struct {
	at     int
	keys   []tree.Key
	counts api.Counts
	flight int
}

// deed is what a rule's state was told: a call that it let pass, with its rule's look at the node, or an end.
type deed struct {
	call    api.Call
	past    int
	passed  int
	end     bool
	at, rt  int
	failed  bool
	asProbe bool
}

// life is all that one rule's state was told since it began, and the entry that is its probe.
type life struct {
	deeds []deed
	probe int
}

// model is an engine as the document tells of it: it keeps all that happened, and reckons each state anew from what that was told.
type model struct {
	keys      int
	seed      uint64
	rules     api.Rules
	replaced  int
	flows     []*life
	breaks    []*life
	hots      []*life
	load, cpu int
	events    []event
	nodes     []tree.Key
	entries   map[int]api.Call
	given     int
	last      int
}

func newModel(keys int, seed uint64) *model {
	return &model{keys: keys, seed: seed, entries: map[int]api.Call{}}
}

// inherit gives rules that come the lives of those that were there.
func inherit(was, now []api.Rules, lives []*life) []*life {
	left := slices.Clone(lives)
	var l []*life
	for _, r := range now {
		mine := &life{}
		for i := range was {
			if left[i] != nil && rules.Same(was[i], r) {
				mine, left[i] = left[i], nil
				break
			}
		}
		l = append(l, mine)
	}
	return l
}

func apart[R any](l []R, of func(R) api.Rules) []api.Rules {
	var all []api.Rules
	for _, r := range l {
		all = append(all, of(r))
	}
	return all
}

func (m *model) replace(r api.Rules) {
	ofFlow := func(r api.Flow) api.Rules { return flows(r) }
	ofBreak := func(r api.Break) api.Rules { return breaks(r) }
	ofHot := func(r api.Hot) api.Rules { return hots(r) }
	m.flows = inherit(apart(m.rules.Flows, ofFlow), apart(r.Flows, ofFlow), m.flows)
	m.breaks = inherit(apart(m.rules.Breaks, ofBreak), apart(r.Breaks, ofBreak), m.breaks)
	m.hots = inherit(apart(m.rules.Hots, ofHot), apart(r.Hots, ofHot), m.hots)
	m.rules = rules.Copy(r)
	m.replaced++
}

const tenth = second / 10

// in goes through what was noted at a node in the buckets from one on to another one.
func (m *model) in(k tree.Key, first, last int) []api.Counts {
	var l []api.Counts
	for _, e := range m.events {
		if slices.Contains(e.keys, k) && e.at/tenth >= first && e.at/tenth <= last {
			l = append(l, e.counts)
		}
	}
	return l
}

func (m *model) passed(k tree.Key, first, last int) int {
	n := 0
	for _, c := range m.in(k, first, last) {
		n += c.Pass
	}
	return n
}

func (m *model) counts(at int, k tree.Key) api.Counts {
	var sum api.Counts
	for _, c := range m.in(k, at/tenth-9, at/tenth) {
		if c.Done > 0 && (sum.Done == 0 || c.MinRt < sum.MinRt) {
			sum.MinRt = c.MinRt
		}
		sum.Pass += c.Pass
		sum.Block += c.Block
		sum.Done += c.Done
		sum.Errors += c.Errors
		sum.RtSum += c.RtSum
	}
	return sum
}

// past is what passed in the whole second ahead.
func (m *model) past(at int, k tree.Key) int {
	begin := at / second * 10
	return m.passed(k, begin-10, begin-1)
}

func (m *model) flight(k tree.Key) int {
	n := 0
	for _, e := range m.events {
		if slices.Contains(e.keys, k) {
			n += e.flight
		}
	}
	return n
}

func (m *model) note(c api.Call, at int, counts api.Counts, flight int) {
	keys, _ := tree.Keys(c)
	for _, k := range keys {
		if !slices.Contains(m.nodes, k) {
			m.nodes = append(m.nodes, k)
		}
	}
	m.events = append(m.events, event{at, keys, counts, flight})
	m.last = at
}

func (m *model) node(r api.Flow, c api.Call) tree.Key {
	switch l := reject.Where(r, c); {
	case l.Origin != "":
		return tree.Key{Kind: tree.Source, Resource: l.Resource, Origin: l.Origin}
	case l.Context != "":
		return tree.Key{Kind: tree.Inner, Resource: l.Resource, Context: l.Context}
	default:
		return tree.Key{Kind: tree.Cluster, Resource: l.Resource}
	}
}

// flowTells is what a flow rule's state tells of a call, as its life made it: whether it passes, and how long it waits.
func (m *model) flowTells(i int, c api.Call) (passes bool, wait int) {
	r := m.rules.Flows[i]
	k := m.node(r, c)
	pace, _ := pacing.New(max(r.Count, 1), r.Queue)
	warm, _ := warmup.New(max(r.Count, 1), max(r.Warm, 1))
	do := func(d deed) {
		switch r.Shape {
		case api.WarmUp:
			passes, _ = warm.Take(d.call.At, d.past, d.passed, d.call.Count)
		case api.Pace:
			wait, passes, _ = pace.Go(d.call.At, d.call.Count)
		case api.WarmPace:
			rate, _ := warm.Fill(d.call.At, d.past)
			wait, passes, _ = pace.At(d.call.At, d.call.Count, rate)
		}
	}
	for _, d := range m.flows[i].deeds {
		do(d)
	}
	now := m.flowDeed(i, c)
	if r.Shape == api.Reject {
		return reject.Passes(r, now.passed, m.flight(k), c.Count), 0
	}
	do(now)
	return passes, wait
}

func (m *model) flowDeed(i int, c api.Call) deed {
	k := m.node(m.rules.Flows[i], c)
	return deed{call: c, past: m.past(c.At, k), passed: m.counts(c.At, k).Pass}
}

// breakerOf and hotOf are states as their lives made them.
func (m *model) breakerOf(i int) *breaker.Breaker {
	b, _ := breaker.New(m.rules.Breaks[i])
	for _, d := range m.breaks[i].deeds {
		if d.end {
			b.Done(d.at, d.rt, d.failed, d.asProbe)
		} else {
			b.Enter(d.call.At)
		}
	}
	return b
}

func (m *model) hotOf(i int) *hot.Hot {
	h, _ := hot.New(m.rules.Hots[i], m.keys, m.seed)
	for _, d := range m.hots[i].deeds {
		h.Take(d.call.At, d.call.Args[m.rules.Hots[i].Index], d.call.Count)
	}
	return h
}

// mine are the numbers of the rules that a call asks.
func (m *model) mine(c api.Call, granted bool) (flowRules, breakRules, hotRules []int) {
	for _, i := range reject.Mine(m.rules.Flows, c) {
		if r := m.rules.Flows[i]; !r.Cluster || r.Fallback && !granted {
			flowRules = append(flowRules, i)
		}
	}
	for i, r := range m.rules.Breaks {
		if r.Resource == c.Resource {
			breakRules = append(breakRules, i)
		}
	}
	for i, r := range m.rules.Hots {
		if r.Resource == c.Resource && r.Index < len(c.Args) {
			hotRules = append(hotRules, i)
		}
	}
	return flowRules, breakRules, hotRules
}

func (m *model) isBlocked(c api.Call) (api.Verdict, bool) {
	for i, r := range m.rules.Lists {
		if r.Resource == c.Resource && c.Origin != "" && slices.Contains(r.Origins, c.Origin) != r.White {
			return api.Verdict{Reason: api.ByList, Rule: i}, true
		}
	}
	if !c.Inbound {
		return api.Verdict{}, false
	}
	whole := tree.Key{Kind: tree.Whole}
	sum := m.counts(c.At, whole)
	most := 0
	for b := c.At/tenth - 9; b < c.At/tenth; b++ {
		most = max(most, m.passed(whole, b, b))
	}
	now := guard.Now{Qps: sum.Pass, Threads: m.flight(whole), Rt: sum.RtSum / max(sum.Done, 1), Load: m.load, Cpu: m.cpu, Most: most, Least: sum.MinRt}
	for i, r := range m.rules.Systems {
		if !guard.System(r, c.Count, now) {
			return api.Verdict{Reason: api.BySystem, Rule: i}, true
		}
	}
	return api.Verdict{}, false
}

// look is what becomes of a call.
func (m *model) look(c api.Call, granted bool) api.Verdict {
	if v, is := m.isBlocked(c); is {
		return v
	}
	flowRules, breakRules, hotRules := m.mine(c, granted)
	for _, i := range hotRules {
		if passes, _ := m.hotOf(i).Look(c.At, c.Args[m.rules.Hots[i].Index], c.Count); !passes {
			return api.Verdict{Reason: api.ByHot, Rule: i}
		}
	}
	longest := 0
	for _, i := range flowRules {
		passes, wait := m.flowTells(i, c)
		if !passes {
			return api.Verdict{Reason: api.ByFlow, Rule: i}
		}
		longest = max(longest, wait)
	}
	for _, i := range breakRules {
		if passes, _ := m.breakerOf(i).Look(c.At); !passes {
			return api.Verdict{Reason: api.ByBreaker, Rule: i}
		}
	}
	return api.Verdict{Wait: longest}
}

func (m *model) enter(c api.Call, granted bool) (int, api.Verdict) {
	v := m.look(c, granted)
	if v.Reason != api.Passed {
		m.note(c, c.At, api.Counts{Block: c.Count}, 0)
		return 0, v
	}
	m.given++
	flowRules, breakRules, hotRules := m.mine(c, granted)
	for _, i := range hotRules {
		m.hots[i].deeds = append(m.hots[i].deeds, deed{call: c})
	}
	for _, i := range flowRules {
		m.flows[i].deeds = append(m.flows[i].deeds, m.flowDeed(i, c))
	}
	for _, i := range breakRules {
		if m.breakerOf(i).State() == breaker.Open {
			m.breaks[i].probe = m.given
		}
		m.breaks[i].deeds = append(m.breaks[i].deeds, deed{call: c})
	}
	m.note(c, c.At, api.Counts{Pass: c.Count}, 1)
	m.entries[m.given] = c
	return m.given, v
}

func (m *model) exit(number, at int, failed bool) {
	c := m.entries[number]
	delete(m.entries, number)
	counts := api.Counts{Done: 1, RtSum: at - c.At, MinRt: at - c.At}
	if failed {
		counts.Errors = 1
	}
	m.note(c, at, counts, -1)
	for i, r := range m.rules.Breaks {
		if r.Resource == c.Resource {
			d := deed{end: true, at: at, rt: at - c.At, failed: failed, asProbe: m.breaks[i].probe == number}
			m.breaks[i].deeds = append(m.breaks[i].deeds, d)
		}
	}
}

func (m *model) open() []int {
	var l []int
	for number := range m.entries {
		l = append(l, number)
	}
	slices.Sort(l)
	return l
}

func (m *model) resources() []string {
	var l []string
	for _, k := range m.nodes {
		if k.Kind == tree.Cluster {
			l = append(l, k.Resource)
		}
	}
	return l
}

// P17.1 to P17.4: engines do with scripts of any kind what the document tells of them.
func TestModel(t *testing.T) {
	counted := map[string]int{}
	for seed := range 120 {
		runScript(t, int64(seed), 350, counted)
	}
	for _, what := range []string{
		"passed", "by list", "by system", "by hot", "by flow", "by breaker", "waited", "probe", "probe ended badly", "probe ended well", "half open blocked", "granted",
		"loaded", "loaded with states", "ended", "failed", "refused", "another first rule", "by flow of shape 0", "by flow of shape 1", "by flow of shape 2", "by flow of shape 3",
		"by threads", "by fallback", "by load", "waited of shape 3",
	} {
		if counted[what] < 20 {
			t.Errorf("%s: %d times", what, counted[what])
		}
	}
	t.Log(counted)
}
