package cluster

import (
	"math"

	"spillway/api"
	"spillway/stream"
)

const port = 1 // the server's

// The ends of a connection: a client dials.
const (
	clientEnd = iota
	serverEnd
)

// network is the streams. The server's port is open just while the server is up.
type network struct{ net *stream.Net }

func newNetwork() network {
	n := network{stream.New()}
	n.net.Listen(port)
	return n
}

func (n network) fork() network { return network{n.net.Fork()} }

// bring moves so many bytes that an end wrote, at most, and reads all that has come by now.
func (n network) bring(conn, end, most int) ([]byte, api.Errno) {
	if _, err := n.net.Move(conn, end, most); err != api.OK {
		return nil, err
	}
	b, _, err := n.net.Read(conn, 1-end, math.MaxInt)
	return b, err
}

// way is how many bytes are under way from a client, and to it.
func (n network) way(conn int) (out, back int) {
	out, _, _ = n.net.Look(conn, clientEnd)
	back, _, _ = n.net.Look(conn, serverEnd)
	return out, back
}
