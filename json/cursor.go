package json

import "spillway/api"

// fault is why a text is given up, and at which byte.
type fault struct {
	err api.Errno
	at  int
}

// cursor is a place in a text.
type cursor struct {
	text string
	at   int
}

// giveUp leaves the text; the face catches it.
func (c *cursor) giveUp(err api.Errno) { panic(fault{err, c.at}) }

// see is the byte that stands there; one must.
func (c *cursor) see() byte {
	if c.at == len(c.text) {
		c.giveUp(api.ErrEnd)
	}
	return c.text[c.at]
}

// takes goes on behind a byte, if that one stands there.
func (c *cursor) takes(b byte) bool {
	if c.at == len(c.text) || c.text[c.at] != b {
		return false
	}
	c.at++
	return true
}

// take is takes, of a byte that must stand there.
func (c *cursor) take(b byte) {
	if c.see() != b {
		c.giveUp(api.ErrChar)
	}
	c.at++
}

func (c *cursor) blanks() {
	for c.takes(' ') || c.takes('\t') || c.takes('\n') || c.takes('\r') {
	}
}

func (c *cursor) onDigit() bool { return c.at < len(c.text) && isDigit(c.text[c.at]) }

func isDigit(b byte) bool { return b >= '0' && b <= '9' }
