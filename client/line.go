package client

import (
	"spillway/api"
	"spillway/frame"
	"spillway/proto"
)

// line is the connection: what has come of a frame, and what is to be sent.
type line struct {
	*frame.Reader
	isUp bool
	out  []byte
}

// newLine is none: it is not up, and has nothing.
func newLine() line { return line{Reader: frame.New()} }

func (l *line) fork() line { return line{l.Reader.Fork(), l.isUp, append([]byte(nil), l.out...)} }

// say lets a request, which is right, be sent as a frame.
func (l *line) say(r api.Request) {
	b, _ := proto.All(r)
	l.out = append(l.out, b...)
}

// hand hands over what is to be sent.
func (l *line) hand() []byte {
	b := l.out
	l.out = nil
	return b
}
