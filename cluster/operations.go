package cluster

import (
	"slices"

	"spillway/api"
	"spillway/frame"
	"spillway/proto"
)

// deed is an operation that is done, and what an Ask tells beside its error.
type deed struct {
	Op
	number    int
	fallsBack bool
}

// operation is how those of a kind are done.
type operation struct {
	kind     OpKind
	ofClient bool // and not of the server, or of all
	do       func(c *Cluster, d *deed) api.Errno
}

func operations() []operation {
	return []operation{
		{Tick, false, (*Cluster).tick},
		{Ask, true, (*Cluster).ask},
		{Dial, true, (*Cluster).dial},
		{ToServer, true, (*Cluster).toServer},
		{ToClient, true, (*Cluster).toClient},
		{Cut, true, (*Cluster).cut},
		{Stop, false, (*Cluster).stop},
		{Start, false, (*Cluster).start},
	}
}

func operationOf(k OpKind) (operation, bool) {
	all := operations()
	i := slices.IndexFunc(all, func(o operation) bool { return o.kind == k })
	if i < 0 {
		return operation{}, false
	}
	return all[i], true
}

func (c *Cluster) tick(d *deed) api.Errno {
	switch {
	case !isTime(d.At):
		return api.ErrRange
	case d.At < c.now:
		return api.ErrBack
	}
	c.now = d.At
	for _, p := range c.peers {
		p.Tick(c.now)
	}
	return api.OK
}

func (c *Cluster) ask(d *deed) (err api.Errno) {
	p := c.peers[d.Client]
	d.number, d.fallsBack, err = p.Ask(c.now, d.Request)
	c.send(p)
	return err
}

func (c *Cluster) dial(d *deed) api.Errno {
	p := c.peers[d.Client]
	if p.Connected() {
		return api.ErrUp
	}
	if may, _ := p.Dial(c.now); !may {
		return api.ErrNone
	}
	conn, is := c.reach()
	if !is {
		p.Refused(c.now)
		return api.ErrDown
	}
	p.conn, p.heard = conn, frame.New()
	p.Up(c.now)
	c.send(p)
	return api.OK
}

func (c *Cluster) toServer(d *deed) api.Errno {
	p := c.peers[d.Client]
	if !p.Connected() {
		return api.ErrDown
	}
	b, err := c.bring(p.conn, clientEnd, d.Bytes)
	if err != api.OK {
		return err
	}
	if !c.serve(p, b) {
		c.breakOff(p)
	}
	return api.OK
}

func (c *Cluster) toClient(d *deed) api.Errno {
	p := c.peers[d.Client]
	if !p.Connected() {
		return api.ErrDown
	}
	b, err := c.bring(p.conn, serverEnd, d.Bytes)
	if err != api.OK || len(b) == 0 {
		return err
	}
	if p.Bytes(c.now, b) != api.OK {
		c.breakOff(p)
		return api.OK
	}
	c.send(p)
	return api.OK
}

func (c *Cluster) cut(d *deed) api.Errno {
	p := c.peers[d.Client]
	if !p.Connected() {
		return api.ErrDown
	}
	c.breakOff(p)
	return api.OK
}

func (c *Cluster) stop(*deed) api.Errno {
	if !c.up {
		return api.ErrDown
	}
	c.up = false
	c.net.Stop(port)
	for _, p := range c.peers {
		if p.Connected() {
			c.breakOff(p)
		}
	}
	return api.OK
}

func (c *Cluster) start(*deed) api.Errno {
	if c.up {
		return api.ErrUp
	}
	c.up = true
	c.server.Restart(c.now)
	c.net.Listen(port)
	return api.OK
}

// reach is a new connection to the server; false: it can't be reached.
func (c *Cluster) reach() (int, bool) {
	conn, err := c.net.Dial(port)
	if err != api.OK {
		return 0, false
	}
	if c.server.Open(conn) != api.OK {
		c.net.Break(conn)
		return 0, false
	}
	return conn, true
}

// send lets a client send what it has to.
func (c *Cluster) send(p *peer) {
	b := p.Send()
	if len(b) > 0 && c.net.Write(p.conn, clientEnd, b...) != api.OK {
		c.breakOff(p)
	}
}

// serve lets the server answer the requests that are whole by bytes of a client; false: something is no request, or an answer has no room.
func (c *Cluster) serve(p *peer, b []byte) bool {
	payloads, err := p.heard.Put(b...)
	for _, payload := range payloads {
		r, wrong, _ := proto.ReadRequest(payload)
		if wrong != api.OK || !c.reply(p, r) {
			return false
		}
	}
	return err == api.OK
}

// reply lets the server answer a request; false: the answer has no room.
func (c *Cluster) reply(p *peer, r api.Request) bool {
	a, err := c.answer(c.now, p.conn, p.number, r)
	if err != api.OK {
		return false
	}
	b, _ := proto.Answer(a)
	b, _ = frame.Frame(b)
	return c.net.Write(p.conn, serverEnd, b...) == api.OK
}

// breakOff cuts the connection of a client. Of one that is not connected by it any more Lost changes nothing.
func (c *Cluster) breakOff(p *peer) {
	c.net.Break(p.conn)
	c.server.Close(p.conn)
	p.Lost(c.now)
	p.conn, p.heard = 0, nil
}
