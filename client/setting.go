package client

import (
	"spillway/api"
	"spillway/proto"
)

const (
	maxTimeout = 60 * api.Second
	maxMost    = 3600 * api.Second
)

func (s Setting) isRight() bool {
	return within(s.Timeout, 1, maxTimeout) && s.Least >= 1 && within(s.Most, s.Least, maxMost)
}

// isName tells whether it is a name, as the Text of a Hello must be one.
func isName(s string) bool { return proto.Right(api.Request{Want: api.Hello, Text: s}) }

func isTime(at int) bool { return within(at, 0, api.MaxTime) }

func within(n, lo, hi int) bool { return lo <= n && n <= hi }
