package platform

import (
	"spillway/api"
	"spillway/cluster"
)

// link is the cluster, by which calls ask the server. It stands inside under a name, so that its faces are none of a platform's.
type link struct{ cluster *cluster.Cluster }

func (l link) fork() link { return link{l.cluster.Fork()} }

func (l link) now() int { return l.cluster.Now() }

// direct is what the server answers to a request of a program; no status, if it can't be asked.
func (l link) direct(i int, r api.Request) api.Status {
	a, _ := l.cluster.Direct(i, r)
	return a.Status
}

// await lets a program's client ask: the number of the request that waits; false: it falls back.
func (l link) await(i int, r api.Request) (int, bool) {
	number, fallsBack, err := l.cluster.Do(cluster.Op{Kind: cluster.Ask, Client: i, Request: r})
	return number, err == api.OK && !fallsBack
}
