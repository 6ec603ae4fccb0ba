package client_test

import (
	"bytes"
	"slices"
	"testing"

	"spillway/api"
	"spillway/client"
)

// P1: a nil one answers zero values.
func TestNil(t *testing.T) {
	var c *client.Client
	if c.Send() != nil || c.Told() != nil || c.Waiting() != nil || c.Connected() || c.Fork() != nil {
		t.Error("a nil client has something")
	}
	if n, falls, err := c.Ask(0, wantFlow(1, 1)); n != 0 || falls || err != api.ErrNil {
		t.Errorf("Ask of nil: %d, %v, %v", n, falls, err)
	}
	if may, err := c.Dial(0); may || err != api.ErrNil {
		t.Errorf("Dial of nil: %v, %v", may, err)
	}
}

// standing has something of all that a client has: what waits, what became, what is to be sent, a part of a frame, and a backoff.
func standing(t *testing.T) *client.Client {
	t.Helper()
	c := newClient(t, usual)
	ok(t, "Refused", c.Refused(0))
	ok(t, "Up", c.Up(0))
	for i := range 4 {
		ask(t, c, 0, i+1)
	}
	ok(t, "Lost", c.Lost(1))
	ok(t, "Refused", c.Refused(1))
	ok(t, "Up", c.Up(201))
	for i := range 3 {
		ask(t, c, 201+i, i+5)
	}
	ok(t, "Bytes", c.Bytes(204, slices.Concat(answer(t, granted(6)), answer(t, granted(5))[:11])))
	return c
}

// stands holds that a client is as standing leaves it, and uses it up.
func stands(t *testing.T, c *client.Client) {
	t.Helper()
	waiting(t, c, 5, 7)
	told(t, c, fallback(1), fallback(2), fallback(3), fallback(4), answered(granted(6)))
	want := asked(t, api.Request{Want: api.Hello, Text: "app"})
	for i := range 3 {
		r := wantFlow(1, 1)
		r.Id = i + 5
		want = append(want, asked(t, r)...)
	}
	sends(t, c, want)
	ok(t, "Bytes", c.Bytes(204, answer(t, granted(5))[11:]))
	told(t, c, answered(granted(5)))
	if err := c.Tick(203); err != api.ErrBack {
		t.Errorf("Tick(203): %v", err)
	}
	ask(t, c, 204, 8)
	ok(t, "Tick", c.Tick(1203))
	told(t, c, fallback(7))
	waiting(t, c, 8)
	ok(t, "Lost", c.Lost(1203))
	dialsFrom(t, c, 1303)
	ok(t, "Refused", c.Refused(1303))
	dialsFrom(t, c, 1503)
}

// P21.5, P4: what becomes of the one changes nothing of the other one.
func TestFork(t *testing.T) {
	for name, use := range map[string]func(c *client.Client){
		"used up": func(c *client.Client) { stands(t, c) },
		"asks": func(c *client.Client) {
			ask(t, c, 300, 8)
			ask(t, c, 300, 9)
			c.Tick(1201)
		},
		"loses":  func(c *client.Client) { c.Lost(900) },
		"breaks": func(c *client.Client) { c.Bytes(900, bytes.Repeat([]byte{255}, 100)) },
		"hears": func(c *client.Client) {
			c.Bytes(210, slices.Concat(answer(t, granted(5))[11:], answer(t, granted(7))))
			c.Bytes(api.MaxTime, []byte{0, 0})
		},
		"hands": func(c *client.Client) {
			b := c.Send()
			for i := range b {
				b[i] = 0xee
			}
			l := c.Told()
			clear(l)
			clear(c.Waiting())
		},
	} {
		t.Run(name, func(t *testing.T) {
			c := standing(t)
			fork := c.Fork()
			use(fork)
			stands(t, c.Fork())
			other := c.Fork()
			use(c)
			stands(t, other)
		})
	}
}

// P3: what is handed in stays as it is, spare room too, and is not kept; what is answered is the caller's.
func TestOwnMemory(t *testing.T) {
	c := connected(t, usual)
	ask(t, c, 0, 1)
	ask(t, c, 0, 2)
	room := slices.Concat(answer(t, granted(1)), answer(t, granted(2))[:20], []byte("room behind it"))
	before := slices.Clone(room)
	b := room[: len(room)-14 : len(room)]
	ok(t, "Bytes", c.Bytes(0, b))
	if !bytes.Equal(room, before) {
		t.Error("Bytes changed what it was handed")
	}
	clear(room)
	ok(t, "Bytes", c.Bytes(0, answer(t, granted(2))[20:]))
	l := c.Told()
	if !slices.Equal(l, []client.Told{answered(granted(1)), answered(granted(2))}) {
		t.Errorf("Told: %+v", l)
	}
	l = append(l, fallback(9))
	clear(l[:cap(l)])
	sent := c.Send()
	kept := slices.Clone(sent)
	ask(t, c, 0, 3)
	ok(t, "Lost", c.Lost(0))
	if !bytes.Equal(sent, kept) {
		t.Error("what Send answered was changed")
	}
	clear(sent[:cap(sent)])
	told(t, c, fallback(3))
	ok(t, "Up", c.Up(0))
	sends(t, c, asked(t, api.Request{Want: api.Hello, Text: "app"}))
	ask(t, c, 0, 4)
	ask(t, c, 0, 5)
	numbers := c.Waiting()
	clear(numbers[:cap(numbers)])
	waiting(t, c, 4, 5)
}
