package cluster_test

import (
	"slices"

	"spillway/api"
	"spillway/client"
	"spillway/cluster"
	"spillway/token"
)

// message is a request, or an answer, that has so many bytes.
type message struct {
	size    int
	request api.Request
	answer  api.Answer
}

// queue is messages under way; so many bytes of the first one have come.
type queue struct {
	l    []message
	came int
}

func (q *queue) under() int {
	n := -q.came
	for _, m := range q.l {
		n += m.size
	}
	return n
}

// put is false, if there is no room.
func (q *queue) put(m message) bool {
	if q.under()+m.size > api.MaxText {
		return false
	}
	q.l = append(q.l, m)
	return true
}

// come is the messages whose last byte is among the next ones, so many at most.
func (q *queue) come(most int) []message {
	n := min(most, q.under()) + q.came
	var l []message
	for len(q.l) > 0 && n >= q.l[0].size {
		l = append(l, q.l[0])
		n -= q.l[0].size
		q.l = q.l[1:]
	}
	q.came = n
	return l
}

func (q *queue) fork() queue { return queue{slices.Clone(q.l), q.came} }

// record is one request that was taken.
type record struct {
	at    int
	ended bool
}

// member is a client; conn is 0, if it is not connected.
type member struct {
	conn        int
	from, fails int
	taken       []record
	told        []client.Told
	out, back   queue
}

// model is a cluster as the document tells of it: it has messages, no bytes, and keeps all requests that ever were; the server is told of them one by one.
type model struct {
	s       client.Setting
	now     int
	up      bool
	server  *token.Server
	members []*member
	dialled int
	grants  []cluster.Grant
}

func newModel(at, clients int, s client.Setting) *model {
	server, _ := token.New(at)
	m := &model{s: s, now: at, up: true, server: server}
	for range clients {
		m.members = append(m.members, &member{})
	}
	return m
}

func (m *model) fork() *model {
	fork := *m
	fork.server, fork.members, fork.grants = m.server.Fork(), nil, slices.Clone(m.grants)
	for _, one := range m.members {
		c := *one
		c.taken, c.told = slices.Clone(one.taken), slices.Clone(one.told)
		c.out, c.back = one.out.fork(), one.back.fork()
		fork.members = append(fork.members, &c)
	}
	return &fork
}

func (c *member) waiting() []int {
	var l []int
	for i, one := range c.taken {
		if !one.ended {
			l = append(l, i+1)
		}
	}
	return l
}

func (c *member) end(id int, k client.Told) {
	c.taken[id-1].ended = true
	k.Id = id
	c.told = append(c.told, k)
}

// fail is of a dial, or a connection: the next dial is later, and ever later.
func (m *model) fail(c *member) {
	backoff := m.s.Least
	for range c.fails {
		backoff = min(2*backoff, m.s.Most)
	}
	c.from = m.now + backoff
	c.fails++
}

func (m *model) cut(c *member) {
	m.server.Close(c.conn)
	for _, id := range c.waiting() {
		c.end(id, client.Told{Fallback: true})
	}
	c.conn, c.out, c.back = 0, queue{}, queue{}
	m.fail(c)
}

// ask is Do at the server, by a connection, for a client.
func (m *model) ask(conn, i int, r api.Request) api.Answer {
	a, _ := m.server.Do(m.now, conn, r)
	if r.Want != api.Hello && a.Status == api.Granted {
		m.grants = append(m.grants, cluster.Grant{At: m.now, Client: i, Id: r.Id, Request: r})
	}
	return a
}

// send is what a client writes.
func (m *model) send(c *member, r api.Request) {
	if !c.out.put(message{size: askSize + len(r.Text), request: r}) {
		m.cut(c)
	}
}

// do is an operation of a kind that is one, of a client that is one.
func (m *model) do(o cluster.Op) (number int, falls bool, err api.Errno) {
	switch o.Kind {
	case cluster.Tick:
		return 0, false, m.tick(o.At)
	case cluster.Stop:
		if !m.up {
			return 0, false, api.ErrDown
		}
		m.up = false
		for _, c := range m.members {
			if c.conn > 0 {
				m.cut(c)
			}
		}
		return 0, false, api.OK
	case cluster.Start:
		if m.up {
			return 0, false, api.ErrUp
		}
		m.up = true
		return 0, false, m.server.Restart(m.now)
	case cluster.Ask:
		return m.asked(m.members[o.Client], o.Request)
	case cluster.Dial:
		return 0, false, m.dial(m.members[o.Client])
	}
	c := m.members[o.Client]
	switch {
	case c.conn == 0:
		return 0, false, api.ErrDown
	case o.Kind == cluster.Cut:
		m.cut(c)
	case o.Bytes < 0:
		return 0, false, api.ErrRange
	case o.Kind == cluster.ToServer:
		m.toServer(c, o)
	default:
		for _, one := range c.back.come(o.Bytes) {
			if id := one.answer.Id; slices.Contains(c.waiting(), id) {
				c.end(id, client.Told{Answer: one.answer})
			}
		}
	}
	return 0, false, api.OK
}

func (m *model) tick(at int) api.Errno {
	switch {
	case at < 0 || at > api.MaxTime:
		return api.ErrRange
	case at < m.now:
		return api.ErrBack
	}
	m.now = at
	for _, c := range m.members {
		for _, id := range c.waiting() {
			if at-c.taken[id-1].at >= m.s.Timeout {
				c.end(id, client.Told{Fallback: true})
			}
		}
	}
	return api.OK
}

func (m *model) asked(c *member, r api.Request) (int, bool, api.Errno) {
	isFlow := r.Flow >= 1 && r.Count >= 1
	switch {
	case !isFlow && r.Want != api.GiveBack || r.Want == api.GiveBack && r.Token < 1:
		return 0, false, api.ErrForm
	case c.conn == 0 || len(c.waiting()) == api.MaxPending:
		return 0, true, api.OK
	}
	c.taken = append(c.taken, record{at: m.now})
	r.Id = len(c.taken)
	m.send(c, r)
	return r.Id, false, api.OK
}

func (m *model) dial(c *member) api.Errno {
	switch {
	case c.conn > 0:
		return api.ErrUp
	case m.now < c.from:
		return api.ErrNone
	case !m.up:
		m.fail(c)
		return api.ErrDown
	}
	m.dialled++
	c.conn, c.fails = m.dialled, 0
	m.server.Open(c.conn)
	m.send(c, api.Request{Want: api.Hello, Text: "cluster"})
	return api.OK
}

func (m *model) toServer(c *member, o cluster.Op) {
	for _, one := range c.out.come(o.Bytes) {
		a := m.ask(c.conn, o.Client, one.request)
		if !c.back.put(message{size: answerSize, answer: a}) {
			m.cut(c)
			return
		}
	}
}

func (m *model) direct(i int, r api.Request) (api.Answer, api.Errno) {
	if !m.up {
		return api.Answer{}, api.ErrDown
	}
	conn := 1<<30 + i
	m.server.Open(conn)
	if m.server.Of(conn) == "" {
		m.server.Do(m.now, conn, api.Request{Want: api.Hello, Text: "cluster"})
	}
	r.Id = 0
	return m.ask(conn, i, r), api.OK
}
