package platform_test

import (
	"math"
	"slices"
	"testing"

	"spillway/api"
	"spillway/cluster"
	"spillway/platform"
)

// P25.3: Do has the cluster's errors; and ErrForm of an Ask, which is of Enter alone.
func TestDoRefused(t *testing.T) {
	p := served(t, 2, rate(1, 5))
	connect(t, p, 1)
	was := seen(p)
	for _, x := range []struct {
		cluster.Op
		want api.Errno
	}{
		{of(0, 0), api.ErrForm},
		{of(cluster.Start+1, 0), api.ErrForm},
		{of(cluster.Ask, 0), api.ErrForm},
		{of(cluster.Ask, 2), api.ErrForm},
		{cluster.Op{Kind: cluster.Ask, Client: 1, Request: api.Request{Want: api.WantFlow, Flow: 1, Count: 1}}, api.ErrForm},
		{tick(-1), api.ErrRange},
		{tick(api.MaxTime + 1), api.ErrRange},
		{tick(math.MaxInt), api.ErrRange},
		{tick(second - 1), api.ErrBack},
		{of(cluster.Dial, 2), api.ErrRange},
		{of(cluster.Dial, -1), api.ErrRange},
		{of(cluster.Dial, 1), api.ErrUp},
		{of(cluster.Cut, 0), api.ErrDown},
		{bytes(cluster.ToServer, 0, 1), api.ErrDown},
		{bytes(cluster.ToClient, 1, -1), api.ErrRange},
		{of(cluster.Start, 0), api.ErrUp},
	} {
		if err := p.Do(x.Op); err != x.want {
			t.Errorf("Do(%+v): %v, want %v", x.Op, err, x.want)
		}
		same(t, "Do that is refused", p, was)
	}
	do(t, p, of(cluster.Stop, 9))
	if err := p.Do(of(cluster.Stop, 0)); err != api.ErrDown {
		t.Errorf("Stop again: %v", err)
	}
}

// P25.3: a call that is granted is decided, granted; it is told once.
func TestGranted(t *testing.T) {
	p := served(t, 2, rate(1, 5))
	connect(t, p, 0, 1)
	work(t, p, 0, platform.Client, flowOf(0, asking(1), fallback))
	enter(t, p, 0, call(tokens(3)), waits(1))
	do(t, p, bytes(cluster.ToServer, 0, all), bytes(cluster.ToClient, 0, 36))
	pending(t, p, 0, 1)
	decided(t, p, 0)
	do(t, p, bytes(cluster.ToClient, 0, 1))
	pending(t, p, 0)
	open(t, p, 0, 1)
	decided(t, p, 1)
	decided(t, p, 0, granted(1, 1))
	decided(t, p, 0)
	if counts, err := p.Engine(0).Counts(second, "a"); counts != (api.Counts{Pass: 3}) || err != api.OK {
		t.Errorf("counts %+v, %v", counts, err)
	}
}

// P25.3: its rules ask one behind the other; each asks when the one ahead of it is answered.
func TestOneBehindTheOther(t *testing.T) {
	p := served(t, 1, rate(1, 5), rate(2, 5), rate(3, 5))
	connect(t, p, 0)
	work(t, p, 0, platform.Client, flowOf(0, asking(3)), flowOf(9), flowOf(0, asking(1)), flowOf(0, asking(2)))
	enter(t, p, 0, call(tokens(2)), waits(1))
	want := [][4]int{{0, 1, 3, 2}, {0, 2, 1, 2}, {0, 3, 2, 2}}
	for n := range want {
		pending(t, p, 0, 1)
		decided(t, p, 0)
		if l := p.Cluster().Waiting(0); !slices.Equal(l, []int{n + 1}) {
			t.Errorf("%v wait", l)
		}
		move(t, p, 0)
		grants(t, p, want[:n+1]...)
	}
	decided(t, p, 0, granted(1, 1))
	pending(t, p, 0)
}

// P25.3: one that is refused is blocked by that rule's number, and the engine is told nothing; the rules behind it don't ask.
func TestRefused(t *testing.T) {
	p := served(t, 1, rate(1, 5), rate(2, 1), rate(3, 5))
	connect(t, p, 0)
	work(t, p, 0, platform.Client, flowOf(9), flowOf(9, asking(1), fallback), flowOf(9, asking(2), fallback), flowOf(9, asking(3), fallback))
	enter(t, p, 0, call(tokens(2)), waits(1))
	move(t, p, 0)
	pending(t, p, 0, 1)
	move(t, p, 0)
	decided(t, p, 0, blocked(1, 2))
	pending(t, p, 0)
	grants(t, p, [4]int{0, 1, 1, 2})
	if e := p.Engine(0); len(e.Resources()) != 0 || e.Last() != 0 || len(p.Cluster().Waiting(0)) != 0 {
		t.Errorf("the engine was told: resources %v, last %d", e.Resources(), e.Last())
	}
}

// P25.3: any other answer, and falling back, lets the engine decide, not granted.
func TestOther(t *testing.T) {
	for name, answer := range map[string]func(p *platform.Platform){
		"unknown":       func(p *platform.Platform) { ok(t, "Flows", p.Flows(rate(1, 50))); move(t, p, 0) },
		"in time":       func(p *platform.Platform) { do(t, p, tick(second+usual.Timeout)) },
		"cut":           func(p *platform.Platform) { do(t, p, of(cluster.Cut, 0)) },
		"server fell":   func(p *platform.Platform) { do(t, p, of(cluster.Stop, 0)) },
		"late by much":  func(p *platform.Platform) { do(t, p, tick(api.MaxTime)) },
		"fell and came": func(p *platform.Platform) { do(t, p, of(cluster.Stop, 0), of(cluster.Start, 0)) },
	} {
		p := served(t, 1, rate(1, 50), rate(2, 50))
		connect(t, p, 0)
		work(t, p, 0, platform.Client, flowOf(0, asking(1)), flowOf(0, asking(2)), flowOf(1, asking(1), fallback))
		enter(t, p, 0, call(), waits(1))
		enter(t, p, 0, call(), waits(2))
		move(t, p, 0)
		grants(t, p, [4]int{0, 1, 1, 1}, [4]int{0, 2, 1, 1})
		answer(p)
		if l := p.Decided(0); !slices.Equal(l, []platform.Entered{passed(1, 1), blocked(2, 2)}) {
			t.Errorf("%s: decided %+v", name, l)
		}
		pending(t, p, 0)
		grants(t, p, [4]int{0, 1, 1, 1}, [4]int{0, 2, 1, 1})
	}
}

// P25.3: a server that has just begun grants nothing yet: what is Quiet is decided by the engine.
func TestQuiet(t *testing.T) {
	p := newPlatform(t, 1)
	ok(t, "Flows", p.Flows(rate(1, 50)))
	connect(t, p, 0)
	work(t, p, 0, platform.Client, flowOf(1, asking(1), fallback))
	enter(t, p, 0, call(), waits(1))
	enter(t, p, 0, call(), waits(2))
	move(t, p, 0)
	decided(t, p, 0, passed(1, 1), blocked(2, 0))
}

// P25.3: a late answer is thrown away, though its grant stands.
func TestLate(t *testing.T) {
	p := served(t, 1, rate(1, 5))
	connect(t, p, 0)
	work(t, p, 0, platform.Client, flowOf(0, asking(1), fallback))
	enter(t, p, 0, call(tokens(5)), waits(1))
	do(t, p, bytes(cluster.ToServer, 0, all), tick(second+usual.Timeout))
	decided(t, p, 0, blocked(1, 0))
	do(t, p, bytes(cluster.ToClient, 0, all))
	decided(t, p, 0)
	open(t, p, 0)
	grants(t, p, [4]int{0, 1, 1, 5})
}

// P25.3: calls are decided in the order in which their requests are told of, and gathered till they are told.
func TestDecidedInOrder(t *testing.T) {
	p := served(t, 2, rate(1, 2), rate(2, 9))
	connect(t, p, 0, 1)
	for i := range 2 {
		work(t, p, i, platform.Client, flowOf(9, asking(1)), flowOf(9, ofResource("b"), asking(2)), flowOf(9, ofResource("b"), asking(2)))
	}
	enter(t, p, 0, call(resource("b")), waits(1))
	enter(t, p, 0, call(), waits(2))
	enter(t, p, 0, call(), waits(3))
	enter(t, p, 0, call(resource("c")), passed(4, 1))
	enter(t, p, 0, call(), waits(5))
	enter(t, p, 1, call(resource("b")), waits(1))
	pending(t, p, 0, 1, 2, 3, 5)
	move(t, p, 0)
	pending(t, p, 0, 1)
	enter(t, p, 0, call(), waits(6))
	pending(t, p, 0, 1, 6)
	do(t, p, bytes(cluster.ToServer, 0, 38))
	do(t, p, of(cluster.Stop, 0))
	pending(t, p, 0)
	pending(t, p, 1)
	decided(t, p, 0, granted(2, 2), granted(3, 3), blocked(5, 0), passed(1, 4), passed(6, 5))
	decided(t, p, 1, passed(1, 1))
}

// P25.3: the rules are as they were when the call entered, and so is how they ask; the engine decides by those that are there now, at the time that is now.
func TestRulesAsTheyWere(t *testing.T) {
	p := served(t, 1, rate(1, 5), rate(2, 2), rate(3, 5))
	connect(t, p, 0)
	work(t, p, 0, platform.Client, flowOf(9, ofResource("b")), flowOf(9, asking(1)), flowOf(9, asking(2)))
	enter(t, p, 0, call(tokens(2)), waits(1))
	enter(t, p, 0, call(), waits(2))
	work(t, p, 0, platform.Server, flowOf(1), flowOf(9, asking(3)))
	do(t, p, tick(second+5))
	move(t, p, 0)
	pending(t, p, 0, 1, 2)
	do(t, p, tick(second+9))
	move(t, p, 0)
	decided(t, p, 0, platform.Entered{Ticket: 1, Verdict: api.Verdict{Reason: api.ByFlow, Rule: 0}, Granted: true}, blocked(2, 2))
	grants(t, p, [4]int{0, 1, 1, 2}, [4]int{0, 2, 1, 1}, [4]int{0, 3, 2, 2})
	if last := p.Engine(0).Last(); last != second+9 {
		t.Errorf("decided at %d", last)
	}
	enter(t, p, 0, call(), granted(3, 1))
	grants(t, p, [4]int{0, 1, 1, 2}, [4]int{0, 2, 1, 1}, [4]int{0, 3, 2, 2}, [4]int{0, 0, 3, 1})
}

// P25.2, P25.3: an engine that is full by the time at which a call is decided: the error is told with the ticket.
func TestDecidedWithError(t *testing.T) {
	p := served(t, 1, rate(1, 1<<20))
	connect(t, p, 0)
	work(t, p, 0, platform.Client, flowOf(1<<20, asking(1)))
	for n := range api.MaxEntries - 1 {
		enter(t, p, 0, call(resource("b")), passed(n+1, n+1))
	}
	next := api.MaxEntries
	for n := range 3 {
		enter(t, p, 0, call(), waits(next+n))
	}
	do(t, p, bytes(cluster.ToServer, 0, all), bytes(cluster.ToClient, 0, 2*37))
	decided(t, p, 0, granted(next, next), platform.Entered{Ticket: next + 1, Granted: true, Errno: api.ErrFull})
	do(t, p, of(cluster.Cut, 0))
	decided(t, p, 0, platform.Entered{Ticket: next + 2, Errno: api.ErrFull})
	pending(t, p, 0)
}

// flood lets a program ask till its connection has no room: that cuts it. How many tickets were given is told.
func flood(t *testing.T, p *platform.Platform) int {
	t.Helper()
	for n := 1; n < 5000; n++ {
		if len(p.Pending(0)) == api.MaxPending {
			do(t, p, tick(p.Now()+usual.Timeout))
			p.Decided(0)
		}
		enter(t, p, 0, call(), waits(n))
		if !p.Cluster().Connected(0) {
			return n
		}
	}
	t.Fatal("the connection is never full")
	return 0
}

// P25.2, P25.3: a call whose Ask cuts the connection is pending till the next Do, with an error or without; but not behind an Ask, which Do refuses.
func TestCutByAsk(t *testing.T) {
	for what, x := range map[string]struct {
		cluster.Op
		want api.Errno
	}{
		"Tick": {tick(api.MaxTime), api.OK}, "Tick back": {tick(0), api.ErrBack}, "Cut": {of(cluster.Cut, 0), api.ErrDown}, "none": {cluster.Op{}, api.ErrForm},
	} {
		p := served(t, 1, rate(1, 5))
		connect(t, p, 0)
		work(t, p, 0, platform.Client, flowOf(9, asking(1)))
		last := flood(t, p)
		l := p.Pending(0)
		if len(l) == 0 || l[len(l)-1] != last || len(p.Cluster().Waiting(0)) != 0 {
			t.Fatalf("%s: pending %v, waiting %v", what, l, p.Cluster().Waiting(0))
		}
		was := seen(p)
		if err := p.Do(of(cluster.Ask, 0)); err != api.ErrForm {
			t.Errorf("Do of an Ask: %v", err)
		}
		same(t, "Do of an Ask", p, was)
		if err := p.Do(x.Op); err != x.want {
			t.Errorf("%s: %v, want %v", what, err, x.want)
		}
		pending(t, p, 0)
		told := p.Decided(0)
		if len(told) != len(l) {
			t.Fatalf("%s: %d are decided of %d", what, len(told), len(l))
		}
		for n, e := range told {
			if want := passed(l[n], told[0].Number+n); e != want {
				t.Errorf("%s: %+v, want %+v", what, e, want)
			}
		}
	}
}

// P25.5: Engine and Cluster are forks: what becomes of them changes nothing.
func TestEngineAndCluster(t *testing.T) {
	p := served(t, 1, rate(1, 5))
	connect(t, p, 0)
	work(t, p, 0, platform.Client, flowOf(9, asking(1)))
	enter(t, p, 0, call(resource("b")), passed(1, 1))
	enter(t, p, 0, call(), waits(2))
	was := seen(p)
	e := p.Engine(0)
	ok(t, "Load", e.Load(api.Rules{}))
	ok(t, "Exit", e.Exit(1, second, false))
	c := p.Cluster()
	for _, o := range []cluster.Op{bytes(cluster.ToServer, 0, all), bytes(cluster.ToClient, 0, all), of(cluster.Stop, 0), tick(api.MaxTime)} {
		if _, _, err := c.Do(o); err != api.OK {
			t.Errorf("Do(%+v): %v", o, err)
		}
	}
	if l := c.Told(0); len(l) != 1 || l[0].Answer.Status != api.Granted {
		t.Errorf("told %v", l)
	}
	same(t, "what became of forks", p, was)
	if p.Now() != second || c.Now() != api.MaxTime {
		t.Errorf("now %d, the fork's %d", p.Now(), c.Now())
	}
}
