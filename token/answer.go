package token

import (
	"spillway/api"
	"spillway/proto"
)

// refuses is the error of a call at a time, if it has one.
func (s *Server) refuses(at int) api.Errno {
	switch {
	case s == nil:
		return api.ErrNil
	case !isTime(at):
		return api.ErrRange
	case at < s.last:
		return api.ErrBack
	}
	return api.OK
}

// note notes a time, at which tokens may be out no more.
func (s *Server) note(at int) {
	s.last = at
	s.forget(at)
}

// answer is what a connection that is there is answered at the time that was noted last.
func (s *Server) answer(conn int, r api.Request) api.Answer {
	switch {
	case !proto.Right(r):
		return api.Answer{Status: api.Bad}
	case r.Want == api.Hello:
		return s.hello(conn, r.Text)
	case !s.has(s.Of(conn)):
		return api.Answer{Status: api.Unknown}
	case r.Want == api.GiveBack:
		return s.takeBack(s.flows(s.Of(conn)), r.Token)
	}
	return s.ask(s.flows(s.Of(conn)), r)
}

// hello lets a connection be of a namespace, or, where there is none of that name, of none.
func (s *Server) hello(conn int, name string) api.Answer {
	if !s.has(name) {
		s.conns[conn] = connection{}
		return api.Answer{Status: api.Unknown}
	}
	s.conns[conn] = connection{namespace: name}
	return api.Answer{Status: api.Granted}
}

func (s *Server) takeBack(l []Flow, number int) api.Answer {
	if !s.giveBack(number, l) {
		return api.Answer{Status: api.Unknown}
	}
	return api.Answer{Status: api.Released}
}

// ask answers a request for tokens of one of these flows.
func (s *Server) ask(l []Flow, r api.Request) api.Answer {
	f, isThere := find(l, r.Flow)
	switch {
	case !isThere || f.Kind.wanted() != r.Want:
		return api.Answer{Status: api.Unknown}
	case s.isQuiet(s.last, f):
		return api.Answer{Status: api.Quiet}
	}
	c := s.counts[f.Id]
	left := f.Count - c.used(s.last, r.Text)
	if r.Count > left {
		return api.Answer{Status: api.Refused, Left: max(left, 0)}
	}
	a := c.grant(s.last, f, r)
	if a.Status == api.Granted {
		a.Left = left - r.Count
	}
	return a
}

// isQuiet tells whether it grants nothing of a flow at a time, as what it granted ahead of its beginning may count still.
func (s *Server) isQuiet(at int, f Flow) bool { return at < s.begun+f.quiet() }
