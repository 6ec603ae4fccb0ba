package cluster

import (
	"spillway/api"
	"spillway/client"
	"spillway/frame"
)

// peer is a client. While it is connected, it has the number of its connection, and what the server gathers of that.
type peer struct {
	*client.Client
	number int // among all clients
	conn   int
	heard  *frame.Reader
}

// peers are all clients.
type peers []*peer

// newPeers are so many clients that have had a Tick of a time, which may be.
func newPeers(at, many int, s client.Setting) (peers, api.Errno) {
	var l peers
	for i := range many {
		c, err := client.New(s, namespace)
		if err != api.OK {
			return nil, err
		}
		c.Tick(at)
		l = append(l, &peer{Client: c, number: i})
	}
	return l, api.OK
}

func (l peers) has(i int) bool { return within(i, 0, len(l)-1) }

func (l peers) fork() peers {
	var all peers
	for _, p := range l {
		all = append(all, &peer{p.Client.Fork(), p.number, p.conn, p.heard.Fork()})
	}
	return all
}
