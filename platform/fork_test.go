package platform_test

import (
	"testing"

	"spillway/api"
	"spillway/cluster"
	"spillway/platform"
)

// laden has something of all that a platform has: entries, calls that are pending behind none and behind one of their answers, calls that were decided, half a line at a port, modes, rules, grants, bytes under way.
func laden(t *testing.T) *platform.Platform {
	t.Helper()
	p := served(t, 2, rate(1, 9), rate(2, 3))
	connect(t, p, 0, 1)
	work(t, p, 0, platform.Client, flowOf(9, asking(1), fallback), flowOf(9, asking(2)), flowOf(9, ofResource("c"), asking(1)))
	work(t, p, 1, platform.Server, flowOf(9, asking(1)))
	ok(t, "Load", p.Load(0, api.Rules{
		Flows:  []api.Flow{flowOf(9, asking(1), fallback), flowOf(9, asking(2)), flowOf(9, ofResource("c"), asking(1))},
		Breaks: []api.Break{{Resource: "b", Grade: api.ErrorCount, Count: 0, Least: 1, Window: second, Recover: second}},
	}))
	enter(t, p, 0, call(resource("b")), passed(1, 1))
	enter(t, p, 0, call(resource("c")), waits(2))
	move(t, p, 0)
	enter(t, p, 0, call(tokens(2)), waits(3))
	move(t, p, 0)
	enter(t, p, 0, call(args("x")), waits(4))
	enter(t, p, 1, call(), granted(1, 1))
	put(t, p, 0, `{"cmd":"mode","mo`)
	return p
}

// stands holds that a platform is as laden leaves it, and uses it up.
func stands(t *testing.T, p *platform.Platform) {
	t.Helper()
	pending(t, p, 0, 3, 4)
	pending(t, p, 1)
	open(t, p, 0, 1, 2)
	open(t, p, 1, 1)
	if p.Mode(0) != platform.Client || p.Mode(1) != platform.Server || p.Now() != second {
		t.Errorf("modes %d, %d, now %d", p.Mode(0), p.Mode(1), p.Now())
	}
	grants(t, p, [4]int{0, 1, 1, 1}, [4]int{0, 2, 1, 2}, [4]int{1, 0, 1, 1})
	do(t, p, tick(second+9))
	move(t, p, 0)
	pending(t, p, 0, 4)
	move(t, p, 0)
	decided(t, p, 0, granted(2, 2), granted(3, 3), granted(4, 4))
	grants(t, p, [4]int{0, 1, 1, 1}, [4]int{0, 2, 1, 2}, [4]int{1, 0, 1, 1}, [4]int{0, 3, 2, 2}, [4]int{0, 4, 1, 1}, [4]int{0, 5, 2, 1})
	ok(t, "Exit", p.Exit(0, 1, true))
	enter(t, p, 0, call(resource("b")), platform.Entered{Ticket: 5, Verdict: api.Verdict{Reason: api.ByBreaker}})
	put(t, p, 0, `de":"local"}`+"\n", `{"ok":true}`)
	enter(t, p, 0, call(), passed(6, 5))
	enter(t, p, 1, call(tokens(4)), granted(2, 2))
	enter(t, p, 1, call(tokens(2)), blocked(3, 0))
}

// P25.5, P4: what becomes of the one changes nothing of the other one.
func TestFork(t *testing.T) {
	for name, use := range map[string]func(p *platform.Platform){
		"nothing":    func(*platform.Platform) {},
		"used up":    func(p *platform.Platform) { stands(t, p) },
		"ticks":      func(p *platform.Platform) { do(t, p, tick(9*second)) },
		"moves":      func(p *platform.Platform) { move(t, p, 0); move(t, p, 0) },
		"enters":     func(p *platform.Platform) { enter(t, p, 0, call(), waits(5)); enter(t, p, 1, call(), granted(2, 2)) },
		"is told":    func(p *platform.Platform) { p.Decided(0); p.Decided(1) },
		"is cut":     func(p *platform.Platform) { do(t, p, of(cluster.Cut, 0)) },
		"falls":      func(p *platform.Platform) { do(t, p, of(cluster.Stop, 0)) },
		"loads":      func(p *platform.Platform) { ok(t, "Load", p.Load(0, api.Rules{})); ok(t, "Flows", p.Flows()) },
		"exits":      func(p *platform.Platform) { ok(t, "Exit", p.Exit(0, 1, true)); ok(t, "Exit", p.Exit(1, 1, true)) },
		"sets modes": func(p *platform.Platform) { ok(t, "SetMode", p.SetMode(0, 1)); ok(t, "SetMode", p.SetMode(1, 1)) },
		"is put to": func(p *platform.Platform) {
			put(t, p, 0, "x\n{\"cmd\":\"fetch", failed(api.ErrEnd, 18))
			p.Put(1, make([]byte, api.MaxText+1)...)
		},
	} {
		p := laden(t)
		f := p.Fork()
		if seen(p) != seen(f) {
			t.Errorf("%s: the fork stands otherwise", name)
		}
		use(f)
		stands(t, p)

		p = laden(t)
		f = p.Fork()
		use(p)
		stands(t, f)
	}
}

// P25.3, P3: what is answered is the caller's.
func TestHandedOut(t *testing.T) {
	p := laden(t)
	scribble := func(l []platform.Entered) {
		clear(l)
		_ = append(l, platform.Entered{Ticket: 99})
	}
	clear(p.Pending(0))
	f := p.Fork()
	scribble(f.Decided(0))
	enter(t, f, 0, call(), waits(5))
	do(t, f, of(cluster.Cut, 0))
	scribble(f.Decided(0))
	if l, err := f.Put(1, []byte("x\ny\n")...); err == api.OK {
		clear(l)
	}
	stands(t, p)
}
