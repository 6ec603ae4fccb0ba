package slots

import (
	"slices"

	"spillway/api"
	"spillway/breaker"
	"spillway/hot"
	"spillway/rules"
)

// states are those of the rules at work, by the rules' numbers.
type states struct {
	flows  []flow
	breaks []*fuse
	hots   []*hot.Hot
}

// statesOf are the states of right rules that come in the place of the engine's.
func (e *Engine) statesOf(r api.Rules) states {
	// Of a right rule, and keys that the engine took, none of these has an error.
	newHot := func(h api.Hot) *hot.Hot {
		state, _ := hot.New(h, e.keys, e.seed)
		return state
	}
	return states{
		flows:  handOver(e.rules.Flows, e.flows, r.Flows, isSame, newFlow),
		breaks: handOver(e.rules.Breaks, e.breaks, r.Breaks, isSame, newFuse),
		hots:   handOver(e.rules.Hots, e.hots, r.Hots, isSameHot, newHot),
	}
}

// handOver is the states of the rules that are now: of each what the first rule had that was there, is the same, and gave its state to none yet; or one that begins.
func handOver[R, S any](was []R, had []S, now []R, same func(a, b R) bool, begin func(r R) S) []S {
	gave := make([]bool, len(was))
	stateOf := func(r R) S {
		for i := range was {
			if !gave[i] && same(was[i], r) {
				gave[i] = true
				return had[i]
			}
		}
		return begin(r)
	}
	var l []S
	for _, r := range now {
		l = append(l, stateOf(r))
	}
	return l
}

func isSame[R comparable](a, b R) bool { return a == b }

// isSameHot leaves it to package rules, as hot rules have lists.
func isSameHot(a, b api.Hot) bool {
	return rules.Same(api.Rules{Hots: []api.Hot{a}}, api.Rules{Hots: []api.Hot{b}})
}

func (s states) fork() states {
	return states{
		flows:  each(s.flows, flow.fork),
		breaks: each(s.breaks, (*fuse).fork),
		hots:   each(s.hots, (*hot.Hot).Fork),
	}
}

func each[S any](l []S, do func(s S) S) []S {
	l = slices.Clone(l)
	for i, s := range l {
		l[i] = do(s)
	}
	return l
}

// fuse is the state of a break rule: a breaker, and, while it is half open, the number of the entry that is its probe.
type fuse struct {
	*breaker.Breaker
	probe int
}

// newFuse is of a right rule, of which a breaker has no error.
func newFuse(r api.Break) *fuse {
	b, _ := breaker.New(r)
	return &fuse{Breaker: b}
}

func (f *fuse) fork() *fuse { return &fuse{Breaker: f.Fork(), probe: f.probe} }

// enter lets an entry of a number enter.
func (f *fuse) enter(number, at int) {
	if _, probe, _ := f.Enter(at); probe {
		f.probe = number
	}
}

// end notes the end of an entry of a number. No number is given twice, so that none is taken for a probe that is over.
func (f *fuse) end(number, at, rt int, failed bool) {
	f.Done(at, rt, failed, f.probe == number)
}
