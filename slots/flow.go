package slots

import (
	"spillway/api"
	"spillway/pacing"
	"spillway/reject"
	"spillway/warmup"
)

// flow is the state of a flow rule: as much of it as its shape asks for.
type flow struct {
	pace *pacing.Pace
	warm *warmup.Warm
}

// newFlow is of a right rule, of which neither a pace nor a warm-up has an error.
func newFlow(r api.Flow) flow {
	var f flow
	if r.Shape == api.Pace || r.Shape == api.WarmPace {
		f.pace, _ = pacing.New(r.Count, r.Queue)
	}
	if r.Shape == api.WarmUp || r.Shape == api.WarmPace {
		f.warm, _ = warmup.New(r.Count, r.Warm)
	}
	return f
}

func (f flow) fork() flow { return flow{pace: f.pace.Fork(), warm: f.warm.Fork()} }

// flowLets tells whether a flow rule lets the call pass.
func (a *asking) flowLets(i int) bool {
	r, state := a.rules.Flows[i], a.flows[i]
	passes := false
	switch r.Shape {
	case api.WarmUp:
		now := a.seen(r)
		passes, _ = state.warm.Look(a.At, now.past, now.passed, a.Count)
	case api.Pace:
		_, passes, _ = state.pace.Look(a.At, a.Count)
	case api.WarmPace:
		rate, _ := state.warm.Rate(a.At, a.seen(r).past)
		// At lets it go, which the pace itself must not yet.
		_, passes, _ = state.pace.Fork().At(a.At, a.Count, rate)
	default:
		now := a.seen(r)
		passes = reject.Passes(r, now.passed, now.flight, a.Count)
	}
	return passes
}

// flowTake lets a call that passes go by a flow rule, and tells how long it waits.
func (a *asking) flowTake(i int) int {
	r, state := a.rules.Flows[i], a.flows[i]
	wait := 0
	switch r.Shape {
	case api.WarmUp:
		now := a.seen(r)
		state.warm.Take(a.At, now.past, now.passed, a.Count)
	case api.Pace:
		wait, _, _ = state.pace.Go(a.At, a.Count)
	case api.WarmPace:
		rate, _ := state.warm.Fill(a.At, a.seen(r).past)
		wait, _, _ = state.pace.At(a.At, a.Count, rate)
	}
	return wait
}
