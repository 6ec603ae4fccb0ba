package platform

import (
	"iter"

	"spillway/api"
	"spillway/command"
	"spillway/reject"
	"spillway/slots"
)

// program is an engine with its calls, a mode, and a command port.
type program struct {
	*slots.Engine
	calls
	number int // among all programs
	mode   Mode
	port   *command.Port
}

// programs are all of them.
type programs []*program

// newPrograms are so many that begin.
func newPrograms(many, keys int, seed uint64) (programs, api.Errno) {
	var l programs
	for i := range many {
		e, err := slots.New(keys, seed)
		if err != api.OK {
			return nil, err
		}
		l = append(l, &program{Engine: e, calls: newCalls(), number: i, mode: Local, port: command.NewPort()})
	}
	return l, api.OK
}

// all goes through the programs in order.
func (l programs) all() iter.Seq[*program] {
	return func(yield func(*program) bool) {
		for _, one := range l {
			if !yield(one) {
				return
			}
		}
	}
}

func (l programs) fork() programs {
	var forks programs
	for one := range l.all() {
		forks = append(forks, one.fork())
	}
	return forks
}

func (one *program) fork() *program {
	return &program{Engine: one.Engine.Fork(), calls: one.calls.fork(), number: one.number, mode: one.mode, port: one.port.Fork()}
}

// asks is which rules ask the server for a call.
func (one *program) asks(c api.Call) []rule {
	if one.mode == Local {
		return nil
	}
	var l []rule
	all, _ := one.Rules()
	for _, i := range reject.Mine(all.Flows, c) {
		if r := all.Flows[i]; r.Cluster {
			l = append(l, rule{number: i, id: r.Id})
		}
	}
	return l
}

// refuses is the error of a call, whose time is now, if it has one. A fork tells what the engine would, which is told of the call only when that is decided.
func (one *program) refuses(c api.Call) api.Errno {
	_, _, err := one.Fork().Enter(c, true)
	if err == api.OK && one.areMost() {
		return api.ErrFull
	}
	return err
}

// enterAlone lets a call enter for which no rule asks: what the engine refuses has no ticket.
func (one *program) enterAlone(a asking) (Entered, api.Errno) {
	e := one.enter(a, a.At, false)
	if e.Errno != api.OK {
		return Entered{}, e.Errno
	}
	e.Ticket = one.newTicket()
	return e, api.OK
}

// enter lets the engine decide a call at a time.
func (one *program) enter(a asking, at int, granted bool) Entered {
	a.At = at
	number, verdict, err := one.Enter(a.Call, granted)
	return Entered{Ticket: a.ticket, Number: number, Verdict: verdict, Granted: granted, Errno: err}
}
