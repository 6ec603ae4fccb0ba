package cluster_test

import (
	"fmt"
	"slices"
	"testing"

	"spillway/api"
	"spillway/client"
	"spillway/cluster"
	"spillway/token"
)

const (
	second = api.Second

	// How many bytes frames have.
	helloSize  = 4 + 34 + 7
	askSize    = 4 + 34 // without a text
	answerSize = 4 + 33

	all = 1 << 30 // bytes
)

// usual is a setting for tests.
var usual = client.Setting{Timeout: 1000, Least: 100, Most: 750}

// five is a flow of 5 a second.
var five = token.Flow{Id: 1, Count: 5, Kind: token.Rate}

// newCluster begins at 0.
func newCluster(t *testing.T, clients int) *cluster.Cluster {
	t.Helper()
	c, err := cluster.New(0, clients, usual)
	ok(t, "New", err)
	return c
}

// loaded grants flows since 0, and is quiet no more.
func loaded(t *testing.T, clients int, l ...token.Flow) *cluster.Cluster {
	t.Helper()
	c := newCluster(t, clients)
	ok(t, "Load", c.Load(l...))
	do(t, c, tick(second))
	return c
}

// connect lets clients be connected, and say Hello, to which the answers have come.
func connect(t *testing.T, c *cluster.Cluster, clients ...int) {
	t.Helper()
	for _, i := range clients {
		do(t, c, of(cluster.Dial, i))
		move(t, c, i)
	}
}

// move moves all bytes to the server, and all back.
func move(t *testing.T, c *cluster.Cluster, i int) {
	t.Helper()
	do(t, c, toServer(i, all))
	do(t, c, toClient(i, all))
}

func of(k cluster.OpKind, i int) cluster.Op { return cluster.Op{Kind: k, Client: i} }

func tick(at int) cluster.Op { return cluster.Op{Kind: cluster.Tick, At: at} }

func toServer(i, n int) cluster.Op { return cluster.Op{Kind: cluster.ToServer, Client: i, Bytes: n} }

func toClient(i, n int) cluster.Op { return cluster.Op{Kind: cluster.ToClient, Client: i, Bytes: n} }

func ask(i int, r api.Request) cluster.Op {
	return cluster.Op{Kind: cluster.Ask, Client: i, Request: r}
}

func wantFlow(flow, count int) api.Request {
	return api.Request{Want: api.WantFlow, Flow: flow, Count: count}
}

func ok(t *testing.T, what string, err api.Errno) {
	t.Helper()
	if err != api.OK {
		t.Fatalf("%s: %v", what, err)
	}
}

// do does an operation that has no error, and tells nothing else.
func do(t *testing.T, c *cluster.Cluster, o cluster.Op) {
	t.Helper()
	if n, falls, err := c.Do(o); n != 0 || falls || err != api.OK {
		t.Fatalf("%+v: %d, %v, %v", o, n, falls, err)
	}
}

// asks holds that a request waits by a number.
func asks(t *testing.T, c *cluster.Cluster, i int, r api.Request, number int) {
	t.Helper()
	if n, falls, err := c.Do(ask(i, r)); n != number || falls || err != api.OK {
		t.Fatalf("Ask of %d: %d, %v, %v, want the number %d", i, n, falls, err, number)
	}
}

// fallsBack holds that a request falls back at once.
func fallsBack(t *testing.T, c *cluster.Cluster, i int, r api.Request) {
	t.Helper()
	if n, falls, err := c.Do(ask(i, r)); n != 0 || !falls || err != api.OK {
		t.Fatalf("Ask of %d: %d, %v, %v, want that it falls back", i, n, falls, err)
	}
}

// refuses holds the error of an operation, and that it changes nothing that is seen.
func refuses(t *testing.T, c *cluster.Cluster, o cluster.Op, want api.Errno) {
	t.Helper()
	ahead := seen(c)
	if n, falls, err := c.Do(o); n != 0 || falls || err != want {
		t.Errorf("%+v: %d, %v, %v, want %v", o, n, falls, err, want)
	}
	if behind := seen(c); behind != ahead {
		t.Errorf("%+v: %s, was %s", o, behind, ahead)
	}
}

// mayDial holds from when on a client may dial, and not ahead of that; forks of the cluster try it.
func mayDial(t *testing.T, c *cluster.Cluster, i, from int) {
	t.Helper()
	for at, want := range map[int]api.Errno{from - 1: api.ErrNone, from: api.OK} {
		f := c.Fork()
		if at >= f.Now() {
			do(t, f, tick(at))
			if !f.Up() {
				do(t, f, of(cluster.Start, 0))
			}
			if _, _, err := f.Do(of(cluster.Dial, i)); err != want {
				t.Errorf("Dial of %d at %d: %v, want %v", i, at, err, want)
			}
		}
	}
}

func told(t *testing.T, c *cluster.Cluster, i int, want ...client.Told) {
	t.Helper()
	if l := c.Told(i); !slices.Equal(l, want) {
		t.Errorf("Told(%d): %+v, want %+v", i, l, want)
	}
}

func answered(id int, s api.Status, left int) client.Told {
	return client.Told{Id: id, Answer: api.Answer{Id: id, Status: s, Left: left}}
}

func fallback(id int) client.Told { return client.Told{Id: id, Fallback: true} }

func waiting(t *testing.T, c *cluster.Cluster, i int, want ...int) {
	t.Helper()
	if l := c.Waiting(i); !slices.Equal(l, want) {
		t.Errorf("Waiting(%d): %v, want %v", i, l, want)
	}
}

func way(t *testing.T, c *cluster.Cluster, i, wantOut, wantBack int) {
	t.Helper()
	if out, back := c.Way(i); out != wantOut || back != wantBack {
		t.Errorf("Way(%d): %d, %d, want %d, %d", i, out, back, wantOut, wantBack)
	}
}

func connected(t *testing.T, c *cluster.Cluster, i int, want bool) {
	t.Helper()
	if c.Connected(i) != want {
		t.Errorf("Connected(%d): %v", i, !want)
	}
}

func grants(t *testing.T, c *cluster.Cluster, want ...cluster.Grant) {
	t.Helper()
	if l := c.Grants(); !slices.Equal(l, want) {
		t.Errorf("Grants: %+v, want %+v", l, want)
	}
}

// grant is one of a request as the server reads it.
func grant(at, i, id int, r api.Request) cluster.Grant {
	r.Id = id
	return cluster.Grant{At: at, Client: i, Id: id, Request: r}
}

func conns(t *testing.T, c *cluster.Cluster, want ...int) {
	t.Helper()
	if l := c.Server().Conns(); !slices.Equal(l, want) {
		t.Errorf("the server's connections: %v, want %v", l, want)
	}
}

// seen is all that a cluster tells of itself; nothing is changed by that.
func seen(c *cluster.Cluster) string {
	s := c.Server()
	out, _ := s.Out(c.Now())
	l := fmt.Sprint(c.Now(), c.Up(), c.Grants(), s.Conns(), s.Last(), s.Namespaces(), s.Flows("cluster"), out)
	for _, conn := range s.Conns() {
		l += fmt.Sprintf(" %d of %q", conn, s.Of(conn))
	}
	for i := range api.MaxClients {
		wayOut, wayBack := c.Way(i)
		l += fmt.Sprint("\n", i, c.Connected(i), c.Waiting(i), wayOut, wayBack, c.Fork().Told(i))
	}
	return l
}
