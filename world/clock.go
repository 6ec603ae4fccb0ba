package world

import "spillway/api"

// Clock stands at a time, and never goes back.
type Clock struct {
	at int
}

// NewClock stands there.
func NewClock(at int) (*Clock, api.Errno) {
	if !isTime(at) {
		return nil, api.ErrRange
	}
	return &Clock{at: at}, api.OK
}

// Now is where it stands.
func (c *Clock) Now() int {
	if c == nil {
		return 0
	}
	return c.at
}

// Tick lets it go on: where it stands then.
func (c *Clock) Tick(by ...int) (int, api.Errno) {
	if c == nil {
		return 0, api.ErrNil
	}
	at := c.at
	for _, step := range by {
		// What is left is asked for, as the sum might go round.
		if step < 0 || step > api.MaxTime-at {
			return 0, api.ErrRange
		}
		at += step
	}
	c.at = at
	return at, api.OK
}

// Set lets it go to a time.
func (c *Clock) Set(at int) api.Errno {
	switch {
	case c == nil:
		return api.ErrNil
	case !isTime(at):
		return api.ErrRange
	case at < c.at:
		return api.ErrBack
	}
	c.at = at
	return api.OK
}

// Fork is another one that stands the same.
func (c *Clock) Fork() *Clock {
	if c == nil {
		return nil
	}
	return &Clock{at: c.at}
}
