package platform

import "spillway/api"

// askDirect lets all rules of a call ask, one behind the other, till it is decided.
func (p *Platform) askDirect(one *program, a asking) Entered {
	for {
		e, isDecided := p.answered(one, &a, p.direct(one.number, a.request()))
		if isDecided {
			return e
		}
	}
}

// askByClient lets the first rule of a call ask by the program's client: the call is pending, or decided, as it falls back.
func (p *Platform) askByClient(one *program, a asking) Entered {
	number, waits := p.await(one.number, a.request())
	if !waits {
		return one.enter(a, p.now(), false)
	}
	return one.await(number, a)
}

// hear lets the pending calls of a program go on whose requests are told of.
func (p *Platform) hear(one *program) {
	for _, told := range p.cluster.Told(one.number) {
		a := one.take(told.Id)
		e, isDecided := p.answered(one, &a, told.Answer.Status)
		if !isDecided {
			e = p.askByClient(one, a)
		}
		one.note(e)
	}
}

// answered is what becomes of a call whose first rule was answered so; false: the rule behind it is to ask. What fell back has no status.
func (p *Platform) answered(one *program, a *asking, s api.Status) (Entered, bool) {
	switch s {
	case api.Granted:
		a.rules = a.rules[1:]
		if len(a.rules) > 0 {
			return Entered{}, false
		}
		return one.enter(*a, p.now(), true), true
	case api.Refused:
		return a.blocked(), true
	}
	return one.enter(*a, p.now(), false), true
}
