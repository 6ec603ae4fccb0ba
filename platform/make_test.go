package platform_test

import (
	"fmt"
	"slices"
	"testing"

	"spillway/api"
	"spillway/client"
	"spillway/cluster"
	"spillway/platform"
	"spillway/token"
)

const (
	second = api.Second
	all    = 1 << 30 // bytes
)

// usual is a setting for tests.
var usual = client.Setting{Timeout: 1000, Least: 100, Most: 750}

// rate is a flow of the server of so many a second.
func rate(id, count int) token.Flow { return token.Flow{Id: id, Count: count, Kind: token.Rate} }

func newPlatform(t *testing.T, programs int) *platform.Platform {
	t.Helper()
	p, err := platform.New(0, programs, usual, 100, 1)
	ok(t, "New", err)
	return p
}

// served has a server that grants flows since 0, and is quiet no more.
func served(t *testing.T, programs int, l ...token.Flow) *platform.Platform {
	t.Helper()
	p := newPlatform(t, programs)
	ok(t, "Flows", p.Flows(l...))
	do(t, p, tick(second))
	return p
}

func ok(t *testing.T, what string, err api.Errno) {
	t.Helper()
	if err != api.OK {
		t.Fatalf("%s: %v", what, err)
	}
}

func of(k cluster.OpKind, i int) cluster.Op { return cluster.Op{Kind: k, Client: i} }

func tick(at int) cluster.Op { return cluster.Op{Kind: cluster.Tick, At: at} }

func bytes(k cluster.OpKind, i, n int) cluster.Op {
	return cluster.Op{Kind: k, Client: i, Bytes: n}
}

// do does operations that have no error.
func do(t *testing.T, p *platform.Platform, l ...cluster.Op) {
	t.Helper()
	for _, o := range l {
		if err := p.Do(o); err != api.OK {
			t.Fatalf("Do(%+v): %v", o, err)
		}
	}
}

// move moves all bytes to the server, and all back.
func move(t *testing.T, p *platform.Platform, i int) {
	t.Helper()
	do(t, p, bytes(cluster.ToServer, i, all), bytes(cluster.ToClient, i, all))
}

// connect lets programs be connected, and say Hello, to which the answers have come.
func connect(t *testing.T, p *platform.Platform, l ...int) {
	t.Helper()
	for _, i := range l {
		do(t, p, of(cluster.Dial, i))
		move(t, p, i)
	}
}

// work lets a program have rules and a mode.
func work(t *testing.T, p *platform.Platform, i int, m platform.Mode, l ...api.Flow) {
	t.Helper()
	ok(t, "Load", p.Load(i, api.Rules{Flows: l}))
	ok(t, "SetMode", p.SetMode(i, m))
}

// flowOf is a flow rule of a; the changes make another one of it.
func flowOf(count int, changes ...func(r *api.Flow)) api.Flow {
	r := api.Flow{Resource: "a", Origin: api.DefaultName, Count: count}
	for _, change := range changes {
		change(&r)
	}
	return r
}

// asking lets a flow rule ask for tokens of a flow; fallback, too, if the server grants none.
func asking(id int) func(r *api.Flow) { return func(r *api.Flow) { r.Cluster, r.Id = true, id } }

func fallback(r *api.Flow) { r.Fallback = true }

func ofResource(name string) func(r *api.Flow) { return func(r *api.Flow) { r.Resource = name } }

func ofOrigin(name string) func(r *api.Flow) { return func(r *api.Flow) { r.Origin = name } }

// call is one of a in main, of no origin, for one token; the changes make another one of it.
func call(changes ...func(c *api.Call)) api.Call {
	c := api.Call{Resource: "a", Context: "main", Count: 1}
	for _, change := range changes {
		change(&c)
	}
	return c
}

func resource(name string) func(c *api.Call) { return func(c *api.Call) { c.Resource = name } }

func from(origin string) func(c *api.Call) { return func(c *api.Call) { c.Origin = origin } }

func tokens(n int) func(c *api.Call) { return func(c *api.Call) { c.Count = n } }

func args(l ...string) func(c *api.Call) { return func(c *api.Call) { c.Args = l } }

// passed, granted, blocked, waits, failed are what becomes of a call with a ticket.
func passed(ticket, number int) platform.Entered {
	return platform.Entered{Ticket: ticket, Number: number}
}

func granted(ticket, number int) platform.Entered {
	return platform.Entered{Ticket: ticket, Number: number, Granted: true}
}

func blocked(ticket, rule int) platform.Entered {
	return platform.Entered{Ticket: ticket, Verdict: api.Verdict{Reason: api.ByFlow, Rule: rule}}
}

func waits(ticket int) platform.Entered { return platform.Entered{Ticket: ticket, Pending: true} }

// enter holds what becomes of a call.
func enter(t *testing.T, p *platform.Platform, i int, c api.Call, want platform.Entered) {
	t.Helper()
	if e, err := p.Enter(i, c); e != want || err != api.OK {
		t.Fatalf("Enter(%d, %+v): %+v, %v, want %+v", i, c, e, err, want)
	}
}

// refuses holds the error of a call, and that it changes nothing.
func refuses(t *testing.T, p *platform.Platform, i int, c api.Call, want api.Errno) {
	t.Helper()
	ahead := seen(p)
	if e, err := p.Enter(i, c); e != (platform.Entered{}) || err != want {
		t.Errorf("Enter(%d, %+v): %+v, %v, want %v", i, c, e, err, want)
	}
	same(t, "Enter that is refused", p, ahead)
}

func decided(t *testing.T, p *platform.Platform, i int, want ...platform.Entered) {
	t.Helper()
	if l := p.Decided(i); !slices.Equal(l, want) {
		t.Errorf("Decided(%d): %+v, want %+v", i, l, want)
	}
}

func pending(t *testing.T, p *platform.Platform, i int, want ...int) {
	t.Helper()
	if l := p.Pending(i); !slices.Equal(l, want) {
		t.Errorf("Pending(%d): %v, want %v", i, l, want)
	}
}

func open(t *testing.T, p *platform.Platform, i int, want ...int) {
	t.Helper()
	if l := p.Engine(i).Open(); !slices.Equal(l, want) {
		t.Errorf("open of %d: %v, want %v", i, l, want)
	}
}

// put holds the answers to a text at a program's port, which has no error.
func put(t *testing.T, p *platform.Platform, i int, text string, want ...string) {
	t.Helper()
	if l, err := p.Put(i, []byte(text)...); !slices.Equal(l, want) || err != api.OK {
		t.Errorf("Put(%d, %.200q): %.2000q, %v, want %.2000q", i, text, l, err, want)
	}
}

// grants holds which requests were granted: the client, the number, the flow, and how many of it.
func grants(t *testing.T, p *platform.Platform, want ...[4]int) {
	t.Helper()
	var l [][4]int
	for _, g := range p.Cluster().Grants() {
		l = append(l, [4]int{g.Client, g.Id, g.Request.Flow, g.Request.Count})
	}
	if !slices.Equal(l, want) {
		t.Errorf("grants: %v, want %v", l, want)
	}
}

// seenOf is all that a platform tells of one program; nothing is changed by that.
func seenOf(p *platform.Platform, i int) string {
	e, c, f := p.Engine(i), p.Cluster(), p.Fork()
	out, back := c.Way(i)
	r, version := e.Rules()
	l := fmt.Sprint(p.Mode(i), p.Pending(i), f.Decided(i), e.Open(), e.Last(), r, version, c.Connected(i), c.Waiting(i), c.Fork().Told(i), out, back)
	for _, name := range e.Resources() {
		counts, err := e.Counts(p.Now(), name)
		l += fmt.Sprint(" ", name, counts, err, e.Flight(name))
	}
	answers, err := f.Put(i, []byte("\n{\"cmd\":\"fetch\"}\n")...)
	return l + fmt.Sprint(answers, err)
}

// seen is all that a platform tells of itself.
func seen(p *platform.Platform) string {
	c := p.Cluster()
	l := fmt.Sprint(p.Now(), c.Up(), c.Grants(), c.Server().Conns(), c.Server().Flows("cluster"))
	for i := range api.MaxClients {
		if p.Mode(i) != 0 {
			l += "\n" + seenOf(p, i)
		}
	}
	return l
}

// same holds that a platform stands as it did.
func same(t *testing.T, what string, p *platform.Platform, was string) {
	t.Helper()
	if is := seen(p); is != was {
		t.Fatalf("%s: the platform stands as\n%s\nand stood as\n%s", what, is, was)
	}
}

// lease is a flow of the server of another kind, of which no rule asks.
func lease(id int) token.Flow {
	return token.Flow{Id: id, Count: 50, Kind: token.Lease, Lease: second}
}
