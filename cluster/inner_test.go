package cluster

import (
	"bytes"
	"slices"
	"testing"

	"spillway/api"
	"spillway/client"
	"spillway/frame"
	"spillway/proto"
	"spillway/token"
)

// What no client and no server writes comes only by the streams that stand inside.

func standing(t *testing.T) *Cluster {
	t.Helper()
	c, _ := New(0, 2, client.Setting{Timeout: 1000, Least: 100, Most: 750})
	if err := c.Load(token.Flow{Id: 1, Count: 5, Kind: token.Rate}); err != api.OK {
		t.Fatal(err)
	}
	errs := c.Run(Op{Kind: Tick, At: api.Second}, Op{Kind: Dial, Client: 1}, Op{Kind: Dial}, Op{Kind: ToServer, Bytes: 100}, Op{Kind: ToClient, Bytes: 100},
		Op{Kind: Ask, Request: api.Request{Want: api.WantFlow, Flow: 1, Count: 1}},
		Op{Kind: Ask, Request: api.Request{Want: api.WantFlow, Flow: 1, Count: 1}})
	if slices.ContainsFunc(errs, func(e api.Errno) bool { return e != api.OK }) {
		t.Fatal(errs)
	}
	return c
}

func framed(t *testing.T, payload []byte) []byte {
	t.Helper()
	b, err := frame.Frame(payload)
	if err != api.OK {
		t.Fatal(err)
	}
	return b
}

// P23.1: clients are connected to the port 1, which is open just while the server is up.
func TestPort(t *testing.T) {
	c := standing(t)
	for _, p := range c.peers {
		if n := c.net.Port(p.conn); n != 1 {
			t.Errorf("the client %d is connected to the port %d", p.number, n)
		}
	}
	for _, k := range []OpKind{Stop, Start} {
		c.Do(Op{Kind: k})
		if _, err := c.net.Fork().Dial(1); (err == api.OK) != c.up {
			t.Errorf("behind %d: Dial of the port: %v", k, err)
		}
	}
}

// isCut holds that the client 0 is not connected any more, that it lost its connection once, and that the client 1 stays.
func isCut(t *testing.T, c *Cluster, what string, told ...client.Told) {
	t.Helper()
	if c.Connected(0) || !c.Connected(1) || !slices.Equal(c.Server().Conns(), []int{1}) || !slices.Equal(c.net.Conns(), []int{1}) || c.peers[0].heard != nil {
		t.Errorf("%s: connected %v, %v, at the server %v, streams %v", what, c.Connected(0), c.Connected(1), c.Server().Conns(), c.net.Conns())
	}
	if l := c.Told(0); !slices.Equal(l, told) {
		t.Errorf("%s: told %+v, want %+v", what, l, told)
	}
	for _, x := range []struct {
		at   int
		want api.Errno
	}{{api.Second + 99, api.ErrNone}, {api.Second + 100, api.OK}} {
		if errs := c.Run(Op{Kind: Tick, At: x.at}, Op{Kind: Dial}); errs[1] != x.want {
			t.Errorf("%s: Dial at %d: %v", what, x.at, errs[1])
		}
	}
}

// P23.1: a payload that is no request, or bytes that are no frame, cut the connection behind those ahead; what stands behind is thrown away.
func TestNoRequest(t *testing.T) {
	asked, _ := proto.All(api.Request{Id: 3, Want: api.WantFlow, Flow: 1, Count: 2})
	notRight, _ := proto.Request(api.Request{Id: 3, Want: api.WantFlow, Flow: 1, Count: 2})
	notRight[0] = 99
	answer, _ := proto.Answer(api.Answer{Status: api.Granted})
	for what, b := range map[string][]byte{
		"one byte":        framed(t, []byte{1}),
		"not right":       framed(t, notRight),
		"an answer":       framed(t, answer),
		"too long":        framed(t, bytes.Repeat([]byte{1}, api.MaxFrame)),
		"no length":       {0, 0, 0, 0},
		"too long to be":  {0, 0, 16, 1},
		"nothing like it": bytes.Repeat([]byte{255}, 50),
	} {
		c := standing(t)
		c.net.Write(c.peers[0].conn, clientEnd, slices.Concat(b, asked)...)
		if _, _, err := c.Do(Op{Kind: ToServer, Bytes: 1 << 20}); err != api.OK {
			t.Errorf("%s: ToServer: %v", what, err)
		}
		if l := c.Grants(); len(l) != 2 || l[0].Id != 1 || l[1].Id != 2 {
			t.Errorf("%s: grants %+v", what, l)
		}
		isCut(t, c, what, client.Told{Id: 1, Fallback: true}, client.Told{Id: 2, Fallback: true})
	}
}

// P23.1: what is no answer cuts the connection, which the client has left already; the answers ahead are told.
func TestNoAnswer(t *testing.T) {
	for what, b := range map[string][]byte{
		"one byte":  framed(t, []byte{1}),
		"no length": {0, 0, 0, 0},
	} {
		c := standing(t)
		c.Do(Op{Kind: ToServer, Bytes: 1 << 20})
		c.net.Write(c.peers[0].conn, serverEnd, b...)
		if _, _, err := c.Do(Op{Kind: ToClient, Bytes: 1 << 20}); err != api.OK {
			t.Errorf("%s: ToClient: %v", what, err)
		}
		a := api.Answer{Status: api.Granted}
		var told []client.Told
		for id := range 2 {
			a.Id, a.Left = id+1, 4-id
			told = append(told, client.Told{Id: a.Id, Answer: a})
		}
		isCut(t, c, what, told...)
	}
}

// P23.1: a server that takes no more connections is not reached, and no stream is left.
func TestServerFull(t *testing.T) {
	c := standing(t)
	c.Do(Op{Kind: Cut})
	for i := range api.MaxConns {
		c.server.Open(100 + i)
	}
	c.Do(Op{Kind: Tick, At: api.Second + 100})
	if _, _, err := c.Do(Op{Kind: Dial}); err != api.ErrDown || c.Connected(0) || !slices.Equal(c.net.Conns(), []int{1}) {
		t.Errorf("Dial: %v, connected %v, streams %v", err, c.Connected(0), c.net.Conns())
	}
	if _, _, err := c.Do(Op{Kind: Dial}); err != api.ErrNone {
		t.Errorf("Dial at once: %v", err)
	}
	if a, err := c.Direct(0, api.Request{Want: api.WantFlow, Flow: 1, Count: 1}); a != (api.Answer{}) || err != api.ErrFull {
		t.Errorf("Direct: %+v, %v", a, err)
	}
}
