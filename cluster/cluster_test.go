package cluster_test

import (
	"math"
	"slices"
	"testing"

	"spillway/api"
	"spillway/client"
	"spillway/cluster"
	"spillway/token"
)

// Chapter 23, example 1: of two that ask for 3 of 5 a second one is granted, one refused.
func TestExample(t *testing.T) {
	c := newCluster(t, 2)
	ok(t, "Load", c.Load(five))
	connect(t, c, 0, 1)
	do(t, c, tick(1000000))
	for i := range 2 {
		asks(t, c, i, wantFlow(1, 3), 1)
	}
	for i := range 2 {
		move(t, c, i)
	}
	told(t, c, 0, answered(1, api.Granted, 2))
	told(t, c, 1, answered(1, api.Refused, 2))
	grants(t, c, grant(1000000, 0, 1, wantFlow(1, 3)))
}

// P23.1: New's limits.
func TestNewRange(t *testing.T) {
	for _, x := range []struct {
		at, clients int
		s           client.Setting
		err         api.Errno
	}{
		{0, 1, usual, api.OK},
		{api.MaxTime, api.MaxClients, usual, api.OK},
		{-1, 1, usual, api.ErrRange},
		{math.MinInt, 1, usual, api.ErrRange},
		{api.MaxTime + 1, 1, usual, api.ErrRange},
		{math.MaxInt, 1, usual, api.ErrRange},
		{0, 0, usual, api.ErrRange},
		{0, -1, usual, api.ErrRange},
		{0, api.MaxClients + 1, usual, api.ErrRange},
		{0, math.MaxInt, usual, api.ErrRange},
		{0, math.MinInt, usual, api.ErrRange},
		{0, 1, client.Setting{}, api.ErrRange},
		{0, 1, client.Setting{Timeout: 1, Least: 2, Most: 1}, api.ErrRange},
		{0, 2, client.Setting{Timeout: 1, Least: 1, Most: 1}, api.OK},
	} {
		c, err := cluster.New(x.at, x.clients, x.s)
		if err != x.err || (c != nil) != (err == api.OK) {
			t.Errorf("New(%d, %d, %+v): %v, %v, want %v", x.at, x.clients, x.s, c, err, x.err)
		}
	}
}

// P23.1: how a new one stands: up, since its time; nobody is connected, and all may dial.
func TestNew(t *testing.T) {
	c, err := cluster.New(700, 3, usual)
	ok(t, "New", err)
	if c.Now() != 700 || !c.Up() {
		t.Errorf("now %d, up %v", c.Now(), c.Up())
	}
	grants(t, c)
	conns(t, c)
	s := c.Server()
	if s.Last() != 700 || len(s.Namespaces()) != 0 {
		t.Errorf("the server: last %d, namespaces %v", s.Last(), s.Namespaces())
	}
	ok(t, "Load", c.Load(five))
	if s := c.Server(); !s.Quiet(700+second-1, 1) || s.Quiet(700+second, 1) {
		t.Error("the server has not begun at 700")
	}
	for i := range 3 {
		connected(t, c, i, false)
		waiting(t, c, i)
		told(t, c, i)
		way(t, c, i, 0, 0)
	}
	for i := range 3 {
		do(t, c, of(cluster.Dial, i))
	}
	conns(t, c, 1, 2, 3)
	refuses(t, c, of(cluster.Dial, 3), api.ErrRange)
}

// P23.1: as many clients as may be, each with a connection of its own, and one without a stream.
func TestMostClients(t *testing.T) {
	c := loaded(t, api.MaxClients, five)
	var want []int
	for i := range api.MaxClients {
		connect(t, c, i)
		want = append(want, i+1)
	}
	for i := range api.MaxClients {
		_, err := c.Direct(i, wantFlow(1, 1))
		ok(t, "Direct", err)
		want = append(want, 1<<30+i)
	}
	conns(t, c, want...)
}

// P23.1: Load's errors change nothing; else the flows are those of the namespace cluster, up or down.
func TestLoad(t *testing.T) {
	var none *cluster.Cluster
	if err := none.Load(five); err != api.ErrNil {
		t.Errorf("Load of nil: %v", err)
	}
	c := newCluster(t, 1)
	lease := token.Flow{Id: 2, Count: 3, Kind: token.Lease, Lease: second}
	ok(t, "Load", c.Load(five, lease))
	var tooMany []token.Flow
	for i := range api.MaxRules + 1 {
		tooMany = append(tooMany, token.Flow{Id: i + 1, Count: 1, Kind: token.Rate})
	}
	for want, l := range map[api.Errno][]token.Flow{
		api.ErrForm:  {five, {Id: 0, Count: 5, Kind: token.Rate}},
		api.ErrTwice: {five, lease, five},
		api.ErrFull:  tooMany,
	} {
		if err := c.Load(l...); err != want {
			t.Errorf("Load: %v, want %v", err, want)
		}
		if l := c.Server().Flows("cluster"); !slices.Equal(l, []token.Flow{five, lease}) {
			t.Errorf("behind %v: %v", want, l)
		}
	}
	do(t, c, of(cluster.Stop, 0))
	ok(t, "Load", c.Load(lease))
	if s := c.Server(); !slices.Equal(s.Flows("cluster"), []token.Flow{lease}) || !slices.Equal(s.Namespaces(), []string{"cluster"}) {
		t.Errorf("flows %v, namespaces %v", s.Flows("cluster"), s.Namespaces())
	}
	ok(t, "Load", c.Load())
	if s := c.Server(); len(s.Flows("cluster")) != 0 || !slices.Equal(s.Namespaces(), []string{"cluster"}) {
		t.Errorf("flows %v, namespaces %v", s.Flows("cluster"), s.Namespaces())
	}
}

// P23.1: the errors with which each operation begins, in their order; Tick, Stop and Start ask no client.
func TestBegin(t *testing.T) {
	var none *cluster.Cluster
	for k := range cluster.Start + 2 {
		if n, falls, err := none.Do(of(k, 0)); n != 0 || falls || err != api.ErrNil {
			t.Errorf("%d of nil: %d, %v, %v", k, n, falls, err)
		}
	}
	c := loaded(t, 2, five)
	connect(t, c, 0)
	for _, i := range []int{0, -1, 2, math.MinInt, math.MaxInt} {
		for _, k := range []cluster.OpKind{0, cluster.Start + 1, 255} {
			refuses(t, c, cluster.Op{Kind: k, Client: i, At: -1, Bytes: -1}, api.ErrForm)
		}
		if i == 0 {
			continue
		}
		for _, k := range []cluster.OpKind{cluster.Ask, cluster.Dial, cluster.ToServer, cluster.ToClient, cluster.Cut} {
			refuses(t, c, cluster.Op{Kind: k, Client: i, Bytes: -1}, api.ErrRange)
		}
		do(t, c, of(cluster.Stop, i))
		refuses(t, c, of(cluster.Stop, i), api.ErrDown)
		do(t, c, of(cluster.Start, i))
		refuses(t, c, of(cluster.Start, i), api.ErrUp)
		do(t, c, cluster.Op{Kind: cluster.Tick, Client: i, At: c.Now()})
	}
}

// P23.1: Run tells what each told, and does no more than MaxOps.
func TestRun(t *testing.T) {
	c := newCluster(t, 1)
	got := c.Run(tick(5), of(cluster.Dial, 0), of(cluster.Dial, 0), tick(4), of(cluster.Cut, 1), cluster.Op{}, ask(0, wantFlow(1, 1)), ask(0, api.Request{}), tick(9))
	want := []api.Errno{api.OK, api.OK, api.ErrUp, api.ErrBack, api.ErrRange, api.ErrForm, api.OK, api.ErrForm, api.OK}
	if !slices.Equal(got, want) || c.Now() != 9 {
		t.Errorf("Run: %v, now %d", got, c.Now())
	}
	waiting(t, c, 0, 1)
	if l := c.Run(); len(l) != 0 {
		t.Errorf("Run of nothing: %v", l)
	}
	var many []cluster.Op
	for i := range api.MaxOps + 2 {
		many = append(many, tick(10+i))
	}
	got = c.Run(many...)
	if len(got) != len(many) || c.Now() != 9+api.MaxOps {
		t.Fatalf("Run of %d: %d, now %d", len(many), len(got), c.Now())
	}
	for i, err := range got {
		if (err == api.OK) != (i < api.MaxOps) || (err == api.ErrLong) != (i >= api.MaxOps) {
			t.Fatalf("Run of too many: of %d: %v", i, err)
		}
	}
	if got := c.Run(many[api.MaxOps:]...); !slices.Equal(got, []api.Errno{0, 0}) {
		t.Errorf("another Run: %v", got)
	}
	var none *cluster.Cluster
	if got := none.Run(tick(0), cluster.Op{}); !slices.Equal(got, []api.Errno{api.ErrNil, api.ErrNil}) {
		t.Errorf("Run of nil: %v", got)
	}
}

// P23.1, P23.2: Direct's errors, and that nothing changes by them.
func TestDirectRefused(t *testing.T) {
	var none *cluster.Cluster
	if a, err := none.Direct(-1, wantFlow(1, 1)); a != (api.Answer{}) || err != api.ErrNil {
		t.Errorf("Direct of nil: %+v, %v", a, err)
	}
	c := loaded(t, 2, five)
	refused := func(i int, want api.Errno) {
		t.Helper()
		ahead := seen(c)
		if a, err := c.Direct(i, wantFlow(1, 1)); a != (api.Answer{}) || err != want {
			t.Errorf("Direct(%d): %+v, %v, want %v", i, a, err, want)
		}
		if seen(c) != ahead {
			t.Errorf("Direct(%d) has changed something", i)
		}
	}
	for _, i := range []int{-1, 2, math.MinInt, math.MaxInt} {
		refused(i, api.ErrRange)
	}
	do(t, c, of(cluster.Stop, 0))
	refused(-1, api.ErrRange)
	refused(0, api.ErrDown)
	refused(1, api.ErrDown)
}

// direct holds what Direct answers.
func direct(t *testing.T, c *cluster.Cluster, i int, r api.Request, want api.Answer) {
	t.Helper()
	if a, err := c.Direct(i, r); a != want || err != api.OK {
		t.Errorf("Direct(%d, %+v): %+v, %v, want %+v", i, r, a, err, want)
	}
}

// P23.1: Direct asks by a connection of its own, whatever Id is handed in; what is granted so is a grant of the client.
func TestDirect(t *testing.T) {
	c := loaded(t, 2, five)
	r := wantFlow(1, 2)
	r.Id = 77
	direct(t, c, 1, r, api.Answer{Status: api.Granted, Left: 3})
	conns(t, c, 1<<30+1)
	do(t, c, tick(second+5))
	direct(t, c, 0, wantFlow(1, 1), api.Answer{Status: api.Granted, Left: 2})
	conns(t, c, 1<<30, 1<<30+1)
	direct(t, c, 1, wantFlow(1, 3), api.Answer{Status: api.Refused, Left: 2})
	direct(t, c, 1, wantFlow(9, 1), api.Answer{Status: api.Unknown})
	for _, bad := range []api.Request{{}, wantFlow(1, 0), {Want: 99}, {Want: api.WantFlow, Flow: 1, Count: 1, Text: "x"}} {
		direct(t, c, 1, bad, api.Answer{Status: api.Bad})
	}
	r.Id = -1
	direct(t, c, 1, r, api.Answer{Status: api.Granted})
	grants(t, c, grant(second, 1, 0, r), grant(second+5, 0, 0, wantFlow(1, 1)), grant(second+5, 1, 0, r))
	for i := range 2 {
		connected(t, c, i, false)
		told(t, c, i)
		waiting(t, c, i)
		way(t, c, i, 0, 0)
	}
	asks := c.Server()
	if n, err := asks.Used(second+5, 1); n != 5 || err != api.OK {
		t.Errorf("used: %d, %v", n, err)
	}
}

// P23.1: the connection of Direct says Hello only if it is of none; a Hello that is handed in is no grant.
func TestDirectHello(t *testing.T) {
	c := newCluster(t, 1)
	do(t, c, tick(second))
	hello := func(name string) api.Request { return api.Request{Want: api.Hello, Text: name} }
	direct(t, c, 0, wantFlow(1, 1), api.Answer{Status: api.Unknown})
	of := func(want string) {
		t.Helper()
		if s := c.Server().Of(1 << 30); s != want {
			t.Errorf("it is of %q, want %q", s, want)
		}
	}
	of("")
	ok(t, "Load", c.Load(five))
	direct(t, c, 0, wantFlow(1, 1), api.Answer{Status: api.Granted, Left: 4})
	of("cluster")
	direct(t, c, 0, hello("cluster"), api.Answer{Status: api.Granted})
	of("cluster")
	direct(t, c, 0, hello("other"), api.Answer{Status: api.Unknown})
	of("")
	direct(t, c, 0, wantFlow(1, 1), api.Answer{Status: api.Granted, Left: 3})
	of("cluster")
	grants(t, c, grant(second, 0, 0, wantFlow(1, 1)), grant(second, 0, 0, wantFlow(1, 1)))
}

// P23.1: Direct goes on behind a Stop and a Start; its connection is no stream, so a Stop leaves it, and the Restart lets it go.
func TestDirectOverStop(t *testing.T) {
	c := loaded(t, 1, five)
	direct(t, c, 0, wantFlow(1, 5), api.Answer{Status: api.Granted})
	do(t, c, tick(2*second))
	do(t, c, of(cluster.Stop, 0))
	conns(t, c, 1<<30)
	do(t, c, of(cluster.Start, 0))
	conns(t, c)
	direct(t, c, 0, wantFlow(1, 1), api.Answer{Status: api.Quiet})
	do(t, c, tick(3*second))
	direct(t, c, 0, wantFlow(1, 1), api.Answer{Status: api.Granted, Left: 4})
	conns(t, c, 1<<30)
}

// P23.2, P1: of none and of nil there is nothing.
func TestNone(t *testing.T) {
	c := loaded(t, 2, five)
	connect(t, c, 0, 1)
	for i := range 2 {
		asks(t, c, i, wantFlow(1, 1), 1)
	}
	var none *cluster.Cluster
	for _, x := range []struct {
		c *cluster.Cluster
		i int
	}{{c, -1}, {c, 2}, {c, math.MaxInt}, {c, math.MinInt}, {none, 0}, {none, -1}} {
		out, back := x.c.Way(x.i)
		if x.c.Told(x.i) != nil || x.c.Connected(x.i) || x.c.Waiting(x.i) != nil || out != 0 || back != 0 {
			t.Errorf("of the client %d there is something", x.i)
		}
	}
	if none.Up() || none.Now() != 0 || none.Grants() != nil || none.Server() != nil || none.Fork() != nil {
		t.Error("of nil there is something")
	}
}
