package cluster

import (
	"slices"

	"spillway/api"
	"spillway/token"
)

const (
	namespace   = "cluster"
	firstDirect = 1 << 30 // the number of the connection without a stream that the first client has
)

// host is the server, whether it is up, and what it granted.
type host struct {
	server *token.Server
	up     bool
	grants []Grant
}

// newHost is up since a time, which may be.
func newHost(at int) host {
	s, _ := token.New(at)
	return host{server: s, up: true}
}

func (h *host) fork() host { return host{h.server.Fork(), h.up, slices.Clone(h.grants)} }

// greet lets a connection without a stream be there, and be of the namespace, if it is of none.
func (h *host) greet(at, conn int) api.Errno {
	if err := h.server.Open(conn); err != api.OK && err != api.ErrTwice {
		return err
	}
	if h.server.Of(conn) != "" {
		return api.OK
	}
	_, err := h.server.Do(at, conn, api.Request{Want: api.Hello, Text: namespace})
	return err
}

// answer is what the server answers a client's request, by a connection. What it grants is kept.
func (h *host) answer(at, conn, client int, r api.Request) (api.Answer, api.Errno) {
	a, err := h.server.Do(at, conn, r)
	if a.Status == api.Granted && r.Want != api.Hello {
		h.grants = append(h.grants, Grant{At: at, Client: client, Id: r.Id, Request: r})
	}
	return a, err
}
