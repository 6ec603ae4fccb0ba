package slots_test

import (
	"fmt"
	"math/rand"
	"slices"
	"testing"

	"spillway/api"
	"spillway/breaker"
	"spillway/rules"
	"spillway/slots"
	"spillway/tree"
)

func pick[T any](r *rand.Rand, l ...T) T { return l[r.Intn(len(l))] }

// anyFlow is a right flow rule of small counts.
func anyFlow(r *rand.Rand) api.Flow {
	f := api.Flow{
		Resource: pick(r, "a", "a", "b", "c"),
		Origin:   pick(r, api.DefaultName, api.DefaultName, api.DefaultName, "app1", api.OtherName),
		Count:    pick(r, 1+r.Intn(5), 5+r.Intn(20), 20+r.Intn(40)),
		Shape:    pick(r, api.Reject, api.Reject, api.WarmUp, api.Pace, api.WarmPace),
		Strategy: pick(r, api.Direct, api.Direct, api.Direct, api.Relate, api.Chain),
	}
	switch f.Strategy {
	case api.Relate:
		f.Ref = pick(r, "a", "b", "nobody")
	case api.Chain:
		f.Ref = pick(r, "main", "side")
	}
	if f.Shape == api.WarmUp || f.Shape == api.WarmPace {
		f.Warm = 1 + r.Intn(4)
	}
	if f.Shape == api.Pace || f.Shape == api.WarmPace {
		f.Queue = pick(r, 0, 50000, 300000, second)
	}
	if f.Shape == api.Reject {
		f.Threads = r.Intn(3) == 0
		if !f.Threads && f.Strategy == api.Direct && r.Intn(4) > 0 {
			f.Cluster, f.Id, f.Fallback = true, 1, r.Intn(3) > 0
		}
	}
	return f
}

func anyBreak(r *rand.Rand) api.Break {
	b := api.Break{
		Resource: pick(r, "a", "b"),
		Grade:    pick(r, api.SlowRatio, api.ErrorRatio, api.ErrorCount),
		Count:    r.Intn(3),
		Least:    1 + r.Intn(4),
		Window:   second * (1 + r.Intn(2)),
		Recover:  second + r.Intn(300000),
	}
	if b.Grade != api.ErrorCount {
		b.Count = pick(r, 300, 500, 1000)
	}
	if b.Grade == api.SlowRatio {
		b.Slow = 1 + r.Intn(400000)
	}
	return b
}

func anyHot(r *rand.Rand) api.Hot {
	h := api.Hot{Resource: pick(r, "a", "c"), Index: r.Intn(3), Count: 3 + r.Intn(8), Seconds: 1 + r.Intn(2)}
	if r.Intn(2) == 0 {
		h.Items = []api.Item{{Value: "v1", Count: r.Intn(8)}}
	}
	return h
}

// anySystem asks for one thing or two.
func anySystem(r *rand.Rand) api.System {
	s := systemOf(-1, -1, -1, -1, -1)
	for range 1 + r.Intn(2) {
		switch r.Intn(5) {
		case 0:
			s.Qps = 10 + r.Intn(40)
		case 1:
			s.Threads = 2 + r.Intn(6)
		case 2:
			s.Rt = r.Intn(600000)
		case 3:
			s.Load = 500
		case 4:
			s.Cpu = 800
		}
	}
	return s
}

func anyList(r *rand.Rand) api.Authority {
	return api.Authority{Resource: pick(r, "a", "b", "c"), White: r.Intn(2) == 0, Origins: pick(r, []string{"app1"}, []string{"app1", "app2"}, []string{"app2"})}
}

func some[R any](r *rand.Rand, most int, of func(r *rand.Rand) R) []R {
	var l []R
	for range r.Intn(most + 1) {
		l = append(l, of(r))
	}
	return l
}

func anyRules(r *rand.Rand) api.Rules {
	all := api.Rules{Flows: some(r, 4, anyFlow), Breaks: some(r, 3, anyBreak), Hots: some(r, 2, anyHot)}
	if r.Intn(3) == 0 {
		all.Systems = some(r, 2, anySystem)
	}
	if r.Intn(4) == 0 {
		all.Lists = some(r, 2, anyList)
	}
	return all
}

// stirred is a list some of which went, came twice, or stand elsewhere, with a few new ones.
func stirred[R any](r *rand.Rand, l []R, of func(r *rand.Rand) R) []R {
	l = slices.Clone(l)
	if len(l) > 0 && r.Intn(3) == 0 {
		l = append(l, pick(r, l...))
	}
	if r.Intn(3) == 0 {
		r.Shuffle(len(l), func(i, j int) { l[i], l[j] = l[j], l[i] })
	}
	if len(l) > 0 && r.Intn(4) == 0 {
		i := r.Intn(len(l))
		l = slices.Delete(l, i, i+1)
	}
	if r.Intn(4) == 0 {
		l = append([]R{of(r)}, l...)
	}
	return l
}

func anyCall(r *rand.Rand, at int) api.Call {
	c := api.Call{
		At:       at,
		Resource: pick(r, "a", "a", "a", "b", "b", "c"),
		Context:  pick(r, "main", "main", "side"),
		Origin:   pick(r, "", "app1", "app1", "app2", "app3"),
		Inbound:  r.Intn(2) == 0,
		Count:    pick(r, 1, 1, 1, 2, 3),
	}
	for range r.Intn(4) {
		c.Args = append(c.Args, pick(r, "v1", "v2", "v3", fmt.Sprint("v", r.Intn(30))))
	}
	return c
}

// later is a time that is not ahead of one: mostly soon, at times at the end of a bucket or of a second, or much later.
func later(r *rand.Rand, at int) int {
	soon := at + r.Intn(40000)
	return pick(r, at, at, soon, soon, soon, soon, at/tenth*tenth+tenth, at/second*second+second-1, at/second*second+second, at+r.Intn(500000), at+second*r.Intn(3))
}

// script is an engine and its model, to which the same is done.
type script struct {
	*testing.T
	r       *rand.Rand
	e       *slots.Engine
	m       *model
	at      int
	counted map[string]int
}

func runScript(t *testing.T, seed int64, steps int, counted map[string]int) {
	t.Helper()
	r := rand.New(rand.NewSource(seed))
	keys := 1 + r.Intn(3)
	e, err := slots.New(keys, uint64(seed))
	if err != api.OK {
		t.Fatal(err)
	}
	s := &script{t, r, e, newModel(keys, uint64(seed)), 0, counted}
	s.load(anyRules(r))
	for range steps {
		s.step()
	}
}

func (s *script) step() {
	s.Helper()
	s.at = later(s.r, s.at)
	switch n := s.r.Intn(100); {
	case n < 60:
		s.enter(anyCall(s.r, s.at), s.r.Intn(4) == 0)
	case n < 88:
		s.exit()
	case n < 90:
		s.stir()
	case n < 93:
		s.m.load, s.m.cpu = s.r.Intn(1000), s.r.Intn(1000)
		if err := s.e.Sample(s.m.load, s.m.cpu); err != api.OK {
			s.Fatal(err)
		}
	case n < 96:
		s.refuse()
	default:
		s.check()
	}
}

func (s *script) load(r api.Rules) {
	s.Helper()
	if err := s.e.Load(r); err != api.OK {
		s.Fatalf("Load(%+v): %v", r, err)
	}
	s.m.replace(r)
	s.counted["loaded"]++
	for _, l := range [][]*life{s.m.flows, s.m.breaks, s.m.hots} {
		if slices.ContainsFunc(l, func(x *life) bool { return len(x.deeds) > 0 }) {
			s.counted["loaded with states"]++
		}
	}
}

// stir loads rules that are like those that are there.
func (s *script) stir() {
	s.Helper()
	was, _ := s.e.Rules()
	s.load(api.Rules{
		Flows:   stirred(s.r, was.Flows, anyFlow),
		Breaks:  stirred(s.r, was.Breaks, anyBreak),
		Hots:    stirred(s.r, was.Hots, anyHot),
		Systems: stirred(s.r, was.Systems, anySystem),
		Lists:   stirred(s.r, was.Lists, anyList),
	})
}

func (s *script) enter(c api.Call, granted bool) {
	s.Helper()
	if s.r.Intn(10) == 0 { // what a fork does is of no account
		s.e.Fork().Enter(c, !granted)
	}
	wantNumber, want := s.m.enter(c, granted)
	number, v, err := s.e.Enter(c, granted)
	if number != wantNumber || v != want || err != api.OK {
		s.Fatalf("Enter(%+v, %v) = %d, %+v, %v, want %d, %+v\nby %+v", c, granted, number, v, err, wantNumber, want, s.m.rules)
	}
	s.count(c, v, granted)
	if len(s.probes(number)) > 0 {
		s.counted["probe"]++
	}
	if v.Reason == api.ByBreaker && s.m.breakerOf(v.Rule).State() == breaker.HalfOpen {
		s.counted["half open blocked"]++
	}
}

func (s *script) count(c api.Call, v api.Verdict, granted bool) {
	s.counted[[]string{"passed", "by list", "by system", "by hot", "by flow", "by breaker"}[v.Reason]]++
	if v.Rule > 0 {
		s.counted["another first rule"]++
	}
	if v.Wait > 0 {
		s.counted["waited"]++
		if slices.ContainsFunc(s.m.rules.Flows, func(r api.Flow) bool { return r.Shape == api.WarmPace && r.Resource == c.Resource }) {
			s.counted["waited of shape 3"]++
		}
	}
	if granted {
		s.counted["granted"]++
	}
	switch v.Reason {
	case api.ByFlow:
		r := s.m.rules.Flows[v.Rule]
		s.counted[fmt.Sprint("by flow of shape ", r.Shape)]++
		if r.Threads {
			s.counted["by threads"]++
		}
		if r.Fallback {
			s.counted["by fallback"]++
		}
	case api.BySystem:
		if r := s.m.rules.Systems[v.Rule]; r == systemOf(-1, -1, -1, 500, -1) {
			s.counted["by load"]++
		}
	}
}

func (s *script) exit() {
	s.Helper()
	open := s.m.open()
	if len(open) == 0 {
		return
	}
	number, failed := pick(s.r, open...), s.r.Intn(3) == 0
	if err := s.e.Exit(number, s.at, failed); err != api.OK {
		s.Fatalf("Exit(%d, %d): %v", number, s.at, err)
	}
	ended := s.probes(number)
	s.m.exit(number, s.at, failed)
	for _, i := range ended {
		what := "probe ended badly"
		if s.m.breakerOf(i).State() == breaker.Closed {
			what = "probe ended well"
		}
		s.counted[what]++
	}
	s.counted["ended"]++
	if failed {
		s.counted["failed"]++
	}
}

// probes are the numbers of the break rules whose probe an entry is.
func (s *script) probes(number int) []int {
	var l []int
	for i, x := range s.m.breaks {
		if x.probe == number && s.m.breakerOf(i).State() == breaker.HalfOpen {
			l = append(l, i)
		}
	}
	return l
}

// refuse makes calls that have errors; check and what comes behind tell whether they changed something.
func (s *script) refuse() {
	s.Helper()
	c := anyCall(s.r, s.at)
	pick(s.r,
		func() { c.Resource = "" }, func() { c.Count = 0 }, func() { c.At = api.MaxTime + 1 }, func() { c.Args = make([]string, 9) }, func() { c.At = s.m.last - 1 },
	)()
	if number, v, err := s.e.Enter(c, true); number != 0 || v != (api.Verdict{}) || err == api.OK {
		s.Fatalf("Enter(%+v) = %d, %+v, %v", c, number, v, err)
	}
	if err := s.e.Exit(s.m.given+1, s.at, true); err != api.ErrTicket {
		s.Fatal(err)
	}
	if err := s.e.Load(flows(api.Flow{})); err != api.ErrName {
		s.Fatal(err)
	}
	s.counted["refused"]++
}

// check holds what the engine tells against the model, now or somewhat later.
func (s *script) check() {
	s.Helper()
	m := s.m
	if got := s.e.Open(); !slices.Equal(got, m.open()) {
		s.Fatalf("Open = %v, want %v", got, m.open())
	}
	if got := s.e.Resources(); !slices.Equal(got, m.resources()) || s.e.Last() != m.last {
		s.Fatalf("Resources = %v, Last = %d, want %v, %d", got, s.e.Last(), m.resources(), m.last)
	}
	for _, name := range m.resources() {
		k := tree.Key{Kind: tree.Cluster, Resource: name}
		if got, err := s.e.Counts(s.at, name); got != m.counts(s.at, k) || err != api.OK || s.e.Flight(name) != m.flight(k) {
			s.Fatalf("Counts(%d, %s) = %+v, %v, want %+v; Flight = %d", s.at, name, got, err, m.counts(s.at, k), s.e.Flight(name))
		}
	}
	if got, n := s.e.Rules(); !rules.Same(got, m.rules) || n != m.replaced {
		s.Fatalf("Rules = %+v, %d", got, n)
	}
	if s.r.Intn(4) == 0 { // a fork goes on in the place of it
		s.e = s.e.Fork()
	}
}
