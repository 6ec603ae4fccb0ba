package token

import (
	"spillway/api"
	"spillway/sketch"
	"spillway/window"
)

const (
	buckets = 10 // of a second
	rows    = 3
	columns = 256
)

// count is what an Id counts since it is of a Kind.
type count struct {
	Kind
	counter
}

// counter counts what is granted of one Id, as its Kind asks.
type counter interface {
	// used is how many tokens are used at a time, of values those that texts name.
	used(at int, texts ...string) int
	// grant notes what is granted, and answers so, but for what is left.
	grant(at int, f Flow, r api.Request) api.Answer
	// fork is another one, of a server with those tokens.
	fork(t *tokens) counter
}

// rate, value and lease are the counters of the kinds. No window and no sketch has an error here: their sizes may be, and no time is noted that is later.
type rate struct{ *window.Window }

type value struct{ *sketch.Sketch }

// lease counts by the tokens of the server.
type lease struct {
	id int
	*tokens
}

// newCount has counted nothing.
func (s *Server) newCount(id int, k Kind) count {
	switch k {
	case Rate:
		w, _ := window.New(api.Second, buckets)
		return count{k, rate{w}}
	case Value:
		w, _ := sketch.New(api.Second, buckets, rows, columns, uint64(id))
		return count{k, value{w}}
	}
	return count{k, lease{id, s.tokens}}
}

// begin lets the Id of a flow count, or go on counting, if its Kind is what it was.
func (s *Server) begin(f Flow) {
	if c, had := s.counts[f.Id]; !had || c.Kind != f.Kind {
		s.counts[f.Id] = s.newCount(f.Id, f.Kind)
	}
}

// had is how many Ids the server would have had with those of some flows, none of which stands twice.
func (s *Server) had(l []Flow) int {
	n := len(s.counts)
	for _, f := range l {
		if _, had := s.counts[f.Id]; !had {
			n++
		}
	}
	return n
}

func (c rate) used(at int, _ ...string) int {
	sum, _ := c.Sum(at)
	return sum.Pass
}

func (c rate) grant(at int, _ Flow, r api.Request) api.Answer {
	c.Add(at, api.Counts{Pass: r.Count})
	return api.Answer{Status: api.Granted}
}

func (c rate) fork(*tokens) counter { return rate{c.Fork()} }

func (c value) used(at int, texts ...string) int {
	n := 0
	for _, text := range texts {
		used, _ := c.Estimate(at, text)
		n += used
	}
	return n
}

func (c value) grant(at int, _ Flow, r api.Request) api.Answer {
	c.Add(at, r.Text, r.Count)
	return api.Answer{Status: api.Granted}
}

func (c value) fork(*tokens) counter { return value{c.Fork()} }

func (c lease) used(at int, _ ...string) int {
	n := 0
	for _, one := range c.out {
		if one.Id == c.id && one.isOut(at) {
			n += one.Count
		}
	}
	return n
}

func (c lease) grant(at int, f Flow, r api.Request) api.Answer {
	if c.areMost() {
		return api.Answer{Status: api.TooMany}
	}
	number := c.letOut(Token{Id: c.id, Count: r.Count, Until: at + f.Lease})
	return api.Answer{Status: api.Granted, Token: number, Wait: f.Lease}
}

func (c lease) fork(t *tokens) counter { return lease{c.id, t} }
