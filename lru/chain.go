package lru

import "iter"

// pair is a key and its value.
type pair struct {
	key   string
	value int
}

// element is one of a chain: its pair, and who stands beside it.
type element struct {
	pair
	ahead, behind *element
}

// tell is the value; false of none.
func (e *element) tell() (int, bool) {
	if e == nil {
		return 0, false
	}
	return e.value, true
}

// leave takes it out of its chain.
func (e *element) leave() {
	e.ahead.behind, e.behind.ahead = e.behind, e.ahead
}

// chain is elements, what was touched least recently first. Its ends meet in knot, which is none of them, so that each has one beside it at both sides.
type chain struct {
	knot *element
}

func newChain() chain {
	knot := &element{}
	knot.ahead, knot.behind = knot, knot
	return chain{knot}
}

// push puts an element behind all others.
func (c chain) push(e *element) {
	last := c.knot.ahead
	e.ahead, e.behind = last, c.knot
	last.behind, c.knot.ahead = e, e
}

// first is the one that was touched least recently, of a chain that is not empty.
func (c chain) first() *element { return c.knot.behind }

// all goes through the elements, from the first one on.
func (c chain) all() iter.Seq[*element] {
	return func(yield func(*element) bool) {
		for e := c.knot.behind; e != c.knot && yield(e); {
			e = e.behind
		}
	}
}
