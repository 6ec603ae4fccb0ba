package slots

import (
	"spillway/api"
	"spillway/guard"
	"spillway/reject"
	"spillway/rules"
)

// asking is a call that wants to enter an engine, with the number that it would have as an entry.
type asking struct {
	*Engine
	api.Call
	granted bool
	number  int
}

// slot is rules of one kind, and why a call is blocked by one of them.
type slot struct {
	reason api.Reason
	ask    func(a *asking) asked
}

// asked are the rules of a slot that a call asks: by their numbers whether one lets it pass, and what it takes of one's state, which tells how long to wait.
type asked struct {
	numbers []int
	lets    func(i int) bool
	take    func(i int) int
}

// row is all slots in their order.
func row() []slot {
	return []slot{
		{api.ByList, (*asking).lists},
		{api.BySystem, (*asking).systems},
		{api.ByHot, (*asking).hotRules},
		{api.ByFlow, (*asking).flowRules},
		{api.ByBreaker, (*asking).breakRules},
	}
}

// decide tells what becomes of the call. It takes of no rule's state till all rules let it pass.
func (a *asking) decide() api.Verdict {
	var all []asked
	for _, s := range row() {
		of := s.ask(a)
		for _, i := range of.numbers {
			if !of.lets(i) {
				return api.Verdict{Reason: s.reason, Rule: i}
			}
		}
		all = append(all, of)
	}
	wait := 0
	for _, of := range all {
		for _, i := range of.numbers {
			wait = max(wait, of.take(i))
		}
	}
	return api.Verdict{Reason: api.Passed, Wait: wait}
}

// lists, systems, hotRules, flowRules, breakRules are what each slot asks. No rule's state has an error: what it refuses the engine refused, and no time is noted that is later.
func (a *asking) lists() asked {
	return asked{
		numbers: rules.Of(a.rules, api.ListRule, a.Resource),
		lets:    func(i int) bool { return guard.List(a.rules.Lists[i], a.Origin) },
		take:    nothing,
	}
}

func (a *asking) systems() asked {
	if !a.Inbound {
		return asked{}
	}
	now := a.now()
	return asked{
		numbers: rules.Of(a.rules, api.SystemRule, a.Resource),
		lets:    func(i int) bool { return guard.System(a.rules.Systems[i], a.Count, now) },
		take:    nothing,
	}
}

func (a *asking) hotRules() asked {
	arg := func(i int) string { return a.Args[a.rules.Hots[i].Index] }
	return asked{
		numbers: only(rules.Of(a.rules, api.HotRule, a.Resource), func(i int) bool { return a.rules.Hots[i].Index < len(a.Args) }),
		lets: func(i int) bool {
			passes, _ := a.hots[i].Look(a.At, arg(i), a.Count)
			return passes
		},
		take: func(i int) int {
			a.hots[i].Take(a.At, arg(i), a.Count)
			return 0
		},
	}
}

func (a *asking) flowRules() asked {
	return asked{
		numbers: only(reject.Mine(a.rules.Flows, a.Call), func(i int) bool { return !a.passesOver(a.rules.Flows[i]) }),
		lets:    a.flowLets,
		take:    a.flowTake,
	}
}

func (a *asking) breakRules() asked {
	return asked{
		numbers: rules.Of(a.rules, api.BreakRule, a.Resource),
		lets: func(i int) bool {
			passes, _ := a.breaks[i].Look(a.At)
			return passes
		},
		take: func(i int) int {
			a.breaks[i].enter(a.number, a.At)
			return 0
		},
	}
}

// passesOver tells whether a flow rule is the server's, and not asked here.
func (a *asking) passesOver(r api.Flow) bool { return r.Cluster && (a.granted || !r.Fallback) }

// nothing is taken of rules without a state.
func nothing(int) int { return 0 }

// only are the numbers that are meant.
func only(l []int, isMeant func(i int) bool) []int {
	var meant []int
	for _, i := range l {
		if isMeant(i) {
			meant = append(meant, i)
		}
	}
	return meant
}
