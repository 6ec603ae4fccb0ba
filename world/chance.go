package world

import "spillway/api"

// Chance is numbers one behind the other (SplitMix64).
type Chance struct {
	state uint64
}

// NewChance begins with a seed.
func NewChance(seed uint64) *Chance { return &Chance{state: seed} }

// Next is the next number.
func (c *Chance) Next() uint64 {
	if c == nil {
		return 0
	}
	c.state += 0x9e3779b97f4a7c15
	return Mix(c.state)
}

// Below is one from 0 on, below n.
func (c *Chance) Below(n int) (int, api.Errno) {
	switch {
	case c == nil:
		return 0, api.ErrNil
	case n < 1:
		return 0, api.ErrRange
	}
	return int(c.Next() % uint64(n)), api.OK
}

// Shuffle is the numbers below n, in any order.
func (c *Chance) Shuffle(n int) ([]int, api.Errno) {
	switch {
	case c == nil:
		return nil, api.ErrNil
	case n < 0 || n > api.MaxOps:
		return nil, api.ErrRange
	}
	l := make([]int, n)
	for i := range l {
		l[i] = i
	}
	for i := n - 1; i > 0; i-- {
		j, _ := c.Below(i + 1)
		l[i], l[j] = l[j], l[i]
	}
	return l, api.OK
}

// Fork is another one that stands the same.
func (c *Chance) Fork() *Chance {
	if c == nil {
		return nil
	}
	return &Chance{state: c.state}
}

// Mix is what a state says.
func Mix(x uint64) uint64 {
	x = (x ^ x>>30) * 0xbf58476d1ce4e5b9
	x = (x ^ x>>27) * 0x94d049bb133111eb
	return x ^ x>>31
}
