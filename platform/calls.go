package platform

import (
	"maps"
	"slices"

	"spillway/api"
)

// asking is a call with a ticket, and the rules that ask the server for it, as they were when it entered; those that were granted are not among them any more.
type asking struct {
	api.Call
	ticket int
	rules  []rule
}

// rule is a flow rule by its number, and of whose tokens it asks for some.
type rule struct{ number, id int }

// request is what the first rule asks.
func (a asking) request() api.Request {
	return api.Request{Want: api.WantFlow, Flow: a.rules[0].id, Count: a.Count}
}

// blocked is of a call whose first rule was refused.
func (a asking) blocked() Entered {
	return Entered{Ticket: a.ticket, Verdict: api.Verdict{Reason: api.ByFlow, Rule: a.rules[0].number}}
}

// calls are those that are pending, by the numbers of their requests, and what became of those that were, till it is told.
type calls struct {
	pending map[int]asking
	decided []Entered
	given   int // tickets
}

func newCalls() calls { return calls{pending: map[int]asking{}} }

// fork may have what stands in a pending call in common: that is never changed.
func (c *calls) fork() calls {
	return calls{pending: maps.Clone(c.pending), decided: slices.Clone(c.decided), given: c.given}
}

func (c *calls) newTicket() int {
	c.given++
	return c.given
}

// areMost tells whether as many are pending as may.
func (c *calls) areMost() bool { return len(c.pending) >= api.MaxPending }

// await lets a call be pending till a request of a number is told of.
func (c *calls) await(number int, a asking) Entered {
	a.Args = slices.Clone(a.Args) // which may be the caller's
	c.pending[number] = a
	return Entered{Ticket: a.ticket, Pending: true}
}

// take is the call that waited for a request; it is pending no more.
func (c *calls) take(number int) asking {
	a := c.pending[number]
	delete(c.pending, number)
	return a
}

// note lets what became of a call be told, if it is decided.
func (c *calls) note(e Entered) {
	if !e.Pending {
		c.decided = append(c.decided, e)
	}
}

func (c *calls) tell() []Entered {
	told := c.decided
	c.decided = nil
	return told
}

// tickets are those of the calls that are pending, rising.
func (c *calls) tickets() []int {
	var l []int
	for _, a := range c.pending {
		l = append(l, a.ticket)
	}
	slices.Sort(l)
	return l
}
