package platform_test

import (
	"fmt"
	"math"
	"strings"
	"testing"

	"spillway/api"
	"spillway/cluster"
	"spillway/platform"
)

func modes() []platform.Mode {
	return []platform.Mode{platform.Local, platform.Client, platform.Server}
}

// at is no time of a call: that is now.
func at(n int) func(c *api.Call) { return func(c *api.Call) { c.At = n } }

// P25.2: the errors that the engine would have, of a call for which a rule asks, and of one for which none does; nothing changes, and nothing is asked.
func TestEnterRefused(t *testing.T) {
	long := strings.Repeat("x", api.MaxName+1)
	for _, m := range modes() {
		p := served(t, 1, rate(1, 50))
		connect(t, p, 0)
		work(t, p, 0, m, flowOf(1, asking(1), fallback))
		for _, x := range []struct {
			c    api.Call
			want api.Errno
		}{
			{call(resource("")), api.ErrName}, {call(resource("a b")), api.ErrName}, {call(from(long)), api.ErrName},
			{call(func(c *api.Call) { c.Context = "" }), api.ErrName},
			{call(tokens(0)), api.ErrRange}, {call(tokens(-1)), api.ErrRange}, {call(tokens(api.MaxCount + 1)), api.ErrRange}, {call(tokens(math.MinInt), from("\x7f")), api.ErrName},
			{call(args(long)), api.ErrLong}, {call(args(make([]string, api.MaxArgs+1)...)), api.ErrLong}, {call(tokens(0), args(long)), api.ErrRange},
		} {
			refuses(t, p, 0, x.c, x.want)
			x.c.Resource += "b"
			if x.want != api.ErrName {
				refuses(t, p, 0, x.c, x.want)
			}
		}
		grants(t, p)
		if n := p.Cluster().Waiting(0); len(n) != 0 {
			t.Errorf("mode %d: %v wait", m, n)
		}
	}
}

// P25.2: as many entries as an engine may have, and as many nodes.
func TestEnterFull(t *testing.T) {
	for _, m := range modes() {
		p := served(t, 1, rate(1, api.MaxCount))
		connect(t, p, 0)
		for n := range api.MaxEntries {
			enter(t, p, 0, call(), passed(n+1, n+1))
		}
		work(t, p, 0, m, flowOf(1, asking(1)))
		refuses(t, p, 0, call(), api.ErrFull)
		ok(t, "Exit", p.Exit(0, 1, false))
		if e, err := p.Enter(0, call()); err != api.OK || e.Ticket != api.MaxEntries+1 {
			t.Errorf("mode %d: behind an Exit: %+v, %v", m, e, err)
		}

		p = served(t, 1, rate(1, api.MaxCount))
		connect(t, p, 0)
		for n := range (api.MaxNodes - 1) / 2 { // an Entrance, and of each an Inner and a Cluster
			enter(t, p, 0, call(resource(fmt.Sprint("r", n))), passed(n+1, n+1))
		}
		work(t, p, 0, m, flowOf(1, asking(1)))
		refuses(t, p, 0, call(), api.ErrFull)
		refuses(t, p, 0, call(resource("r0"), from("x"), func(c *api.Call) { c.Context, c.Inbound = "side", true }), api.ErrFull)
		enter(t, p, 0, call(resource("r0")), passed(api.MaxNodes/2, api.MaxNodes/2))
	}
}

// P25.2: with MaxPending calls that are pending all others of the program have ErrFull, behind the engine's errors, whatever the mode.
func TestEnterPendingFull(t *testing.T) {
	p := served(t, 2, rate(1, 1))
	connect(t, p, 0, 1)
	for i := range 2 {
		work(t, p, i, platform.Client, flowOf(1, asking(1)))
	}
	for n := range api.MaxPending {
		enter(t, p, 0, call(), waits(n+1))
	}
	for _, m := range modes() {
		ok(t, "SetMode", p.SetMode(0, m))
		refuses(t, p, 0, call(), api.ErrFull)
		refuses(t, p, 0, call(resource("b")), api.ErrFull)
		refuses(t, p, 0, call(resource("")), api.ErrName)
		refuses(t, p, 0, call(resource("b"), tokens(0)), api.ErrRange)
	}
	enter(t, p, 1, call(), waits(1))
	do(t, p, tick(second+usual.Timeout))
	pending(t, p, 0)
	enter(t, p, 0, call(resource("b")), passed(api.MaxPending+1, api.MaxPending+1))
}

// P25.2: each program counts its tickets from 1 on; a call that is refused has none.
func TestTickets(t *testing.T) {
	p := served(t, 3, rate(1, 50))
	connect(t, p, 0)
	work(t, p, 0, platform.Client, flowOf(0), flowOf(1, ofResource("b"), asking(1)))
	work(t, p, 1, platform.Server, flowOf(1, asking(1)))
	enter(t, p, 0, call(), blocked(1, 0))
	enter(t, p, 0, call(resource("b")), waits(2))
	refuses(t, p, 0, call(resource("b"), tokens(0)), api.ErrRange)
	enter(t, p, 0, call(resource("b")), waits(3))
	enter(t, p, 0, call(resource("c")), passed(4, 1))
	enter(t, p, 1, call(), granted(1, 1))
	refuses(t, p, 1, call(resource("")), api.ErrName)
	enter(t, p, 1, call(resource("b")), passed(2, 2))
	enter(t, p, 2, call(), passed(1, 1))
}

// P25.2: the time of a call is now, whatever its At says.
func TestEnterNow(t *testing.T) {
	for _, m := range modes() {
		p := served(t, 1, rate(1, 50))
		connect(t, p, 0)
		work(t, p, 0, m, flowOf(50, asking(1)))
		for n, wrong := range []int{0, -1, math.MinInt, math.MaxInt, api.MaxTime, second + 9} {
			if e, err := p.Enter(0, call(at(wrong))); err != api.OK || e.Ticket != n+1 {
				t.Errorf("mode %d: Enter at %d: %+v, %v", m, wrong, e, err)
			}
		}
		move(t, p, 0)
		if last := p.Engine(0).Last(); last != second {
			t.Errorf("mode %d: the engine noted %d", m, last)
		}
	}
}

// P25.2: Local, the rules of the server are looked at here if they fall back, and nobody asks.
func TestLocal(t *testing.T) {
	p := served(t, 1, rate(1, 50))
	connect(t, p, 0)
	work(t, p, 0, platform.Local, flowOf(2, asking(1), fallback), flowOf(0, ofResource("b"), asking(1)))
	enter(t, p, 0, call(), passed(1, 1))
	enter(t, p, 0, call(tokens(2)), blocked(2, 0))
	enter(t, p, 0, call(), passed(3, 2))
	enter(t, p, 0, call(), blocked(4, 0))
	enter(t, p, 0, call(resource("b")), passed(5, 3))
	pending(t, p, 0)
	decided(t, p, 0)
	grants(t, p)
	if counts, err := p.Engine(0).Counts(second, "a"); counts != (api.Counts{Pass: 2, Block: 3}) || err != api.OK {
		t.Errorf("counts %+v, %v", counts, err)
	}
}

// P25.2: which rules ask: those of the call that are the server's. Of a call for which none does it is decided at once, not granted, in any mode.
func TestNoneAsks(t *testing.T) {
	for _, m := range modes() {
		p := served(t, 1, rate(1, 50))
		connect(t, p, 0)
		work(t, p, 0, m, flowOf(2), flowOf(1, ofResource("b"), asking(1)), flowOf(1, ofOrigin("x"), asking(1)), flowOf(1, ofOrigin(api.OtherName), asking(1)), flowOf(9, ofOrigin("y")))
		enter(t, p, 0, call(from("y")), passed(1, 1))
		enter(t, p, 0, call(resource("c")), passed(2, 2))
		enter(t, p, 0, call(tokens(2), from("y")), blocked(3, 0))
		pending(t, p, 0)
		grants(t, p)
		for n, origin := range []string{"x", "z", ""} {
			e, err := p.Enter(0, call(from(origin)))
			ok(t, "Enter", err)
			if e.Ticket != 4+n || e.Pending != (m == platform.Client) {
				t.Errorf("mode %d: from %q: %+v", m, origin, e)
			}
		}
	}
}

// P25.2: Server, each rule asks for the call's Count of its flow, by the program's own connection; it is decided at once.
func TestServer(t *testing.T) {
	p := served(t, 2, rate(1, 5), rate(2, 3))
	for i := range 2 {
		work(t, p, i, platform.Server, flowOf(0, asking(1), fallback), flowOf(0, ofResource("b")), flowOf(9), flowOf(0, asking(2), fallback))
	}
	enter(t, p, 1, call(tokens(2)), granted(1, 1))
	grants(t, p, [4]int{1, 0, 1, 2}, [4]int{1, 0, 2, 2})
	enter(t, p, 0, call(), granted(1, 1))
	grants(t, p, [4]int{1, 0, 1, 2}, [4]int{1, 0, 2, 2}, [4]int{0, 0, 1, 1}, [4]int{0, 0, 2, 1})
	if l := p.Cluster().Server().Conns(); len(l) != 2 || l[0] != 1<<30 || l[1] != 1<<30+1 {
		t.Errorf("connections: %v", l)
	}
	for i := range 2 {
		pending(t, p, i)
		decided(t, p, i)
	}
	open(t, p, 1, 1)
	if counts, err := p.Engine(1).Counts(second, "a"); counts != (api.Counts{Pass: 2}) || err != api.OK {
		t.Errorf("counts %+v, %v", counts, err)
	}
}

// P25.2: the first rule that is refused blocks: those behind it don't ask, what was granted ahead stays so, and the engine is told nothing.
func TestServerRefused(t *testing.T) {
	p := served(t, 1, rate(1, 5), rate(2, 1), rate(3, 5))
	work(t, p, 0, platform.Server, flowOf(9), flowOf(9, asking(1), fallback), flowOf(9, asking(2), fallback), flowOf(9, asking(3), fallback))
	enter(t, p, 0, call(tokens(2)), blocked(1, 2))
	grants(t, p, [4]int{0, 0, 1, 2})
	if e := p.Engine(0); len(e.Resources()) != 0 || e.Last() != 0 || len(e.Open()) != 0 {
		t.Errorf("the engine was told: resources %v, last %d, open %v", e.Resources(), e.Last(), e.Open())
	}
	enter(t, p, 0, call(), granted(2, 1))
	enter(t, p, 0, call(tokens(3)), blocked(3, 1))
	grants(t, p, [4]int{0, 0, 1, 2}, [4]int{0, 0, 1, 1}, [4]int{0, 0, 2, 1}, [4]int{0, 0, 3, 1})
}

// P25.2: what is granted, the engine may still block; it is granted all the same.
func TestGrantedAndBlocked(t *testing.T) {
	p := served(t, 1, rate(1, 5))
	connect(t, p, 0)
	want := platform.Entered{Ticket: 1, Verdict: api.Verdict{Reason: api.ByFlow, Rule: 1}, Granted: true}
	work(t, p, 0, platform.Server, flowOf(5, asking(1)), flowOf(0))
	enter(t, p, 0, call(), want)
	ok(t, "SetMode", p.SetMode(0, platform.Client))
	enter(t, p, 0, call(), waits(2))
	move(t, p, 0)
	want.Ticket = 2
	decided(t, p, 0, want)
	if counts, err := p.Engine(0).Counts(second, "a"); counts != (api.Counts{Block: 2}) || err != api.OK {
		t.Errorf("counts %+v, %v", counts, err)
	}
}

// P25.2: another answer of the server, or none at all: the engine decides, not granted: rules of the server that fall back look here.
func TestServerOther(t *testing.T) {
	for name, prepare := range map[string]func(p *platform.Platform){
		"unknown":      func(p *platform.Platform) { ok(t, "Flows", p.Flows(rate(1, 50))) },
		"another kind": func(p *platform.Platform) { ok(t, "Flows", p.Flows(rate(1, 50), lease(2))) },
		"no flow":      func(p *platform.Platform) { ok(t, "Flows", p.Flows()) },
		"down":         func(p *platform.Platform) { do(t, p, of(cluster.Stop, 0)) },
		"quiet":        func(p *platform.Platform) { do(t, p, of(cluster.Stop, 0), of(cluster.Start, 0)) },
	} {
		p := served(t, 1, rate(1, 50), rate(2, 50))
		work(t, p, 0, platform.Server, flowOf(0, asking(2)), flowOf(1, asking(1), fallback))
		prepare(p)
		enter(t, p, 0, call(), passed(1, 1))
		enter(t, p, 0, call(), blocked(2, 1))
		if l := p.Cluster().Grants(); len(l) != 0 {
			t.Errorf("%s: grants %v", name, l)
		}
	}
}

// P25.2: Client, the first rule asks: the call is pending, of which Ticket and Pending alone are told, and the engine is told nothing.
func TestClient(t *testing.T) {
	p := served(t, 2, rate(1, 5), rate(2, 5))
	connect(t, p, 0, 1)
	work(t, p, 1, platform.Client, flowOf(9), flowOf(0, asking(1)), flowOf(0, asking(2)))
	enter(t, p, 1, call(tokens(3)), waits(1))
	pending(t, p, 1, 1)
	pending(t, p, 0)
	decided(t, p, 1)
	if l := p.Cluster().Waiting(1); len(l) != 1 || l[0] != 1 {
		t.Errorf("%v wait", l)
	}
	if e := p.Engine(1); len(e.Resources()) != 0 || e.Last() != 0 {
		t.Errorf("the engine was told: resources %v, last %d", e.Resources(), e.Last())
	}
	do(t, p, bytes(cluster.ToServer, 1, all))
	grants(t, p, [4]int{1, 1, 1, 3})
	pending(t, p, 1, 1)
}

// P25.2: Client, if the first rule's Ask falls back, the engine decides at once, not granted.
func TestClientFallsBack(t *testing.T) {
	p := served(t, 1, rate(1, 50))
	work(t, p, 0, platform.Client, flowOf(9, ofResource("b")), flowOf(0, asking(2)), flowOf(1, asking(1), fallback))
	enter(t, p, 0, call(), passed(1, 1))
	enter(t, p, 0, call(), blocked(2, 2))
	connect(t, p, 0)
	enter(t, p, 0, call(), waits(3))
	do(t, p, of(cluster.Cut, 0))
	decided(t, p, 0, blocked(3, 2))
	enter(t, p, 0, call(), blocked(4, 2))
	pending(t, p, 0)
	decided(t, p, 0)
	do(t, p, tick(2*second))
	enter(t, p, 0, call(), passed(5, 2))
}

// P3: what is handed in stays as it is, and is not kept: a pending call's arguments neither, nor rules, bytes, or flows.
func TestHandedIn(t *testing.T) {
	p := served(t, 1, rate(1, 50))
	connect(t, p, 0)
	work(t, p, 0, platform.Client, flowOf(9, asking(1)))
	hots := []api.Hot{{Resource: "a", Count: 1, Seconds: 1, Items: []api.Item{{Value: "vip", Count: 2}}}}
	flows := []api.Flow{flowOf(9, asking(1)), flowOf(1)}
	ok(t, "Load", p.Load(0, api.Rules{Flows: flows[:1], Hots: hots}))
	hots[0].Items[0], hots[0], flows[0] = api.Item{}, api.Hot{}, api.Flow{}
	room := []string{"vip", "spare"}
	enter(t, p, 0, call(args(room[:1]...)), waits(1))
	if room[0] != "vip" || room[1] != "spare" {
		t.Errorf("the arguments became %q", room)
	}
	room[0] = "other"
	move(t, p, 0)
	decided(t, p, 0, granted(1, 1))
	ok(t, "SetMode", p.SetMode(0, platform.Local))
	enter(t, p, 0, call(args("other")), passed(2, 2))
	enter(t, p, 0, call(args("vip")), passed(3, 3))
	enter(t, p, 0, call(args("vip")), platform.Entered{Ticket: 4, Verdict: api.Verdict{Reason: api.ByHot}})
	b := []byte("{\"cmd\":\"fet__")
	if _, err := p.Put(0, b[:11]...); err != api.OK || string(b) != "{\"cmd\":\"fet__" {
		t.Errorf("the bytes became %q, %v", b, err)
	}
	clear(b)
	put(t, p, 0, "x\"}\n", `{"ok":false,"error":26,"at":0}`)
}
