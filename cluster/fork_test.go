package cluster_test

import (
	"slices"
	"testing"

	"spillway/api"
	"spillway/client"
	"spillway/cluster"
	"spillway/token"
)

// busy has something of all that a cluster has: requests that wait, parts of frames at both ends, what became of requests, grants, tokens that are out, and a backoff.
func busy(t *testing.T) *cluster.Cluster {
	t.Helper()
	c := loaded(t, 3, five, token.Flow{Id: 2, Count: 3, Kind: token.Lease, Lease: second})
	connect(t, c, 0, 1)
	for i := range 3 {
		asks(t, c, 0, wantFlow(1, 1), i+1)
	}
	asks(t, c, 1, api.Request{Want: api.WantToken, Flow: 2, Count: 1}, 1)
	do(t, c, toServer(0, 2*askSize+9))
	do(t, c, toServer(1, all))
	do(t, c, toClient(0, answerSize+5))
	_, err := c.Direct(2, wantFlow(1, 1))
	ok(t, "Direct", err)
	do(t, c, of(cluster.Dial, 2))
	do(t, c, of(cluster.Cut, 2))
	return c
}

// stands holds that a cluster is as busy leaves it, and uses it up.
func stands(t *testing.T, c *cluster.Cluster) {
	t.Helper()
	lease := api.Request{Want: api.WantToken, Flow: 2, Count: 1}
	made := []cluster.Grant{grant(second, 0, 1, wantFlow(1, 1)), grant(second, 0, 2, wantFlow(1, 1)), grant(second, 1, 1, lease), grant(second, 2, 0, wantFlow(1, 1))}
	grants(t, c, made...)
	conns(t, c, 1, 2, 1<<30+2)
	way(t, c, 0, askSize-9, answerSize-5)
	way(t, c, 1, 0, answerSize)
	way(t, c, 2, 0, 0)
	waiting(t, c, 0, 2, 3)
	told(t, c, 0, answered(1, api.Granted, 4))
	mayDial(t, c, 2, second+usual.Least)
	move(t, c, 0)
	told(t, c, 0, answered(2, api.Granted, 3), answered(3, api.Granted, 1))
	grants(t, c, append(made, grant(second, 0, 3, wantFlow(1, 1)))...)
	asks(t, c, 0, wantFlow(1, 2), 4)
	do(t, c, tick(second+1))
	move(t, c, 0)
	move(t, c, 1)
	told(t, c, 0, answered(4, api.Refused, 1))
	told(t, c, 1, client.Told{Id: 1, Answer: api.Answer{Id: 1, Status: api.Granted, Left: 2, Wait: second, Token: 1}})
	do(t, c, of(cluster.Stop, 0))
	refuses(t, c, of(cluster.Dial, 2), api.ErrNone)
	do(t, c, of(cluster.Start, 0))
}

// P23.2, P4: what becomes of the one changes nothing of the other one.
func TestFork(t *testing.T) {
	for name, use := range map[string]func(c *cluster.Cluster){
		"nothing":  func(*cluster.Cluster) {},
		"used up":  func(c *cluster.Cluster) { stands(t, c) },
		"ticks":    func(c *cluster.Cluster) { do(t, c, tick(9*second)) },
		"moves":    func(c *cluster.Cluster) { move(t, c, 0); move(t, c, 1) },
		"asks":     func(c *cluster.Cluster) { asks(t, c, 0, wantFlow(1, 1), 4); c.Direct(0, wantFlow(1, 1)) },
		"is told":  func(c *cluster.Cluster) { c.Told(0); c.Told(1); c.Told(2) },
		"is cut":   func(c *cluster.Cluster) { do(t, c, of(cluster.Cut, 0)); do(t, c, of(cluster.Cut, 1)) },
		"falls":    func(c *cluster.Cluster) { do(t, c, of(cluster.Stop, 0)) },
		"restarts": func(c *cluster.Cluster) { do(t, c, of(cluster.Stop, 0)); do(t, c, of(cluster.Start, 0)) },
		"loads":    func(c *cluster.Cluster) { ok(t, "Load", c.Load()) },
		"dials": func(c *cluster.Cluster) {
			do(t, c, of(cluster.Stop, 0))
			do(t, c, tick(second+100))
			refuses(t, c, of(cluster.Dial, 2), api.ErrDown)
		},
	} {
		c := busy(t)
		f := c.Fork()
		if seen(c) != seen(f) {
			t.Errorf("%s: the fork stands otherwise", name)
		}
		use(f)
		stands(t, c)

		c = busy(t)
		f = c.Fork()
		use(c)
		stands(t, f)
	}
}

// P23.2, P3: what is answered is the caller's.
func TestHandedOut(t *testing.T) {
	c := busy(t)
	scribble := func(l []cluster.Grant) {
		clear(l)
		_ = append(l, cluster.Grant{Id: 99})
	}
	scribble(c.Grants())
	clear(c.Waiting(0))
	f := c.Fork()
	clear(f.Told(0))
	s := c.Server()
	ok(t, "Close", s.Close(1))
	ok(t, "Restart", s.Restart(second))
	ok(t, "Load", s.Load("cluster"))
	stands(t, c)
}

// P3: what is handed in stays as it is, and is not kept.
func TestHandedIn(t *testing.T) {
	flows := []token.Flow{five, {Id: 2, Count: 3, Kind: token.Value}, {Id: 7}}
	c := newCluster(t, 1)
	ok(t, "Load", c.Load(flows[:2]...))
	if flows[2] != (token.Flow{Id: 7}) {
		t.Error("Load has changed what stands behind the list")
	}
	clear(flows)
	if l := c.Server().Flows("cluster"); len(l) != 2 || l[0] != five {
		t.Errorf("flows: %v", l)
	}
	ops := []cluster.Op{tick(3), of(cluster.Dial, 0), ask(0, wantFlow(1, 1)), {Kind: 99}}
	was := slices.Clone(ops)
	errs := c.Run(ops[:3]...)
	if !slices.Equal(ops, was) || !slices.Equal(errs, []api.Errno{0, 0, 0}) {
		t.Errorf("Run has changed its list, or told %v", errs)
	}
}
