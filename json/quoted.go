package json

import (
	"strings"
	"unicode/utf8"

	"spillway/api"
)

// quoted takes a string, and is what it says.
func (c *cursor) quoted() string {
	c.take('"')
	var out []byte
	for !c.takes('"') {
		switch b := c.see(); {
		case b == '\\':
			out = utf8.AppendRune(out, c.escape())
		case b < ' ':
			c.giveUp(api.ErrText)
		case b < utf8.RuneSelf:
			out = append(out, b)
			c.at++
		default:
			out = append(out, c.wide()...)
		}
	}
	return string(out)
}

// wide takes a rune of several bytes. At fault is the first byte with which none begins so: what stands ahead of it is no full one yet.
func (c *cursor) wide() string {
	for begin := c.at; ; {
		c.see()
		r := c.text[begin : c.at+1]
		full := utf8.FullRuneInString(r)
		if full && !utf8.ValidString(r) {
			c.giveUp(api.ErrText)
		}
		c.at++
		if full {
			return r
		}
	}
}

// escape takes a backslash and what stands behind it.
func (c *cursor) escape() rune {
	c.take('\\')
	if c.see() == 'u' {
		return c.coded()
	}
	r := unescaped(c.text[c.at])
	if r == 0 {
		c.giveUp(api.ErrText)
	}
	c.at++
	return r
}

// unescaped is what a byte behind a backslash stands for; 0: nothing.
func unescaped(b byte) rune {
	switch b {
	case '"', '\\', '/':
		return rune(b)
	case 'b':
		return '\b'
	case 'f':
		return '\f'
	case 'n':
		return '\n'
	case 'r':
		return '\r'
	case 't':
		return '\t'
	}
	return 0
}

// coded takes the u of an escape and its digits, and the other half of a pair of surrogates, if it stands right behind.
func (c *cursor) coded() rune {
	r := c.hex()
	if r < 0xd800 || r > 0xdfff {
		return r
	}
	behind := c.at
	if r < 0xdc00 && strings.HasPrefix(c.text[behind:], `\u`) {
		c.at++
		if low := c.hex(); low >= 0xdc00 && low <= 0xdfff {
			return (r-0xd800)<<10 + (low - 0xdc00) + 0x10000
		}
		// It is an escape of its own.
		c.at = behind
	}
	return utf8.RuneError
}

// hex takes a u and four digits.
func (c *cursor) hex() rune {
	c.take('u')
	var r rune
	for range 4 {
		digit := strings.IndexByte(hexDigits, lower(c.see()))
		if digit < 0 {
			c.giveUp(api.ErrText)
		}
		r = r<<4 + rune(digit)
		c.at++
	}
	return r
}

func lower(b byte) byte {
	if b >= 'A' && b <= 'Z' {
		return b + 'a' - 'A'
	}
	return b
}
