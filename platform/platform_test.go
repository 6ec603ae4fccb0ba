package platform_test

import (
	"fmt"
	"math"
	"slices"
	"testing"

	"spillway/api"
	"spillway/client"
	"spillway/cluster"
	"spillway/platform"
	"spillway/rules"
	"spillway/slots"
	"spillway/token"
)

// DOC.md's example 9: the server grants 5: two programs together pass 5; when it is down, each falls back to its own rule.
func TestExample9(t *testing.T) {
	for _, m := range []platform.Mode{platform.Client, platform.Server} {
		p := served(t, 2, rate(1, 5))
		connect(t, p, 0, 1)
		pass := map[int]int{}
		count := func(i int, e platform.Entered) {
			if e.Number > 0 {
				pass[i]++
			}
		}
		for i := range 2 {
			work(t, p, i, m, flowOf(2, asking(1), fallback))
		}
		round := func() {
			for range 4 {
				for i := range 2 {
					e, err := p.Enter(i, call())
					ok(t, "Enter", err)
					count(i, e)
					if e.Pending {
						move(t, p, i)
					}
					for _, e := range p.Decided(i) {
						count(i, e)
					}
				}
			}
		}
		round()
		if pass[0]+pass[1] != 5 {
			t.Errorf("mode %d: %v pass of 5", m, pass)
		}
		do(t, p, tick(2*second), of(cluster.Stop, 0))
		clear(pass)
		round()
		if pass[0] != 2 || pass[1] != 2 {
			t.Errorf("mode %d: down, %v pass", m, pass)
		}
	}
}

// DOC.md's example 10: a push that is right replaces all rules; of another one there is an error, and nothing changes.
func TestExample10(t *testing.T) {
	p := newPlatform(t, 1)
	work(t, p, 0, platform.Local, flowOf(1), flowOf(2, ofResource("b")))
	put(t, p, 0, `{"cmd":"push","rules":{"flow":[{"resource":"a","count":5}]}}`+"\n", `{"ok":true}`)
	r, n := p.Engine(0).Rules()
	if want := (api.Rules{Flows: []api.Flow{flowOf(5)}}); !rules.Same(r, want) || n != 2 {
		t.Errorf("rules %+v, replaced %d times", r, n)
	}
	was := seen(p)
	put(t, p, 0, `{"cmd":"push","rules":{"flow":[{"count":5}]}}`+"\n", `{"ok":false,"error":10,"at":0}`)
	same(t, "the push that is wrong", p, was)
}

// P25.1: New has the errors of the cluster, and of the engines.
func TestNewRange(t *testing.T) {
	for _, x := range []struct {
		at, programs int
		s            client.Setting
		keys         int
		err          api.Errno
	}{
		{0, 1, usual, 1, api.OK},
		{api.MaxTime, api.MaxClients, usual, api.MaxKeys, api.OK},
		{-1, 1, usual, 1, api.ErrRange},
		{api.MaxTime + 1, 1, usual, 1, api.ErrRange},
		{math.MinInt, 1, usual, 1, api.ErrRange},
		{math.MaxInt, 1, usual, 1, api.ErrRange},
		{0, 0, usual, 1, api.ErrRange},
		{0, -1, usual, 1, api.ErrRange},
		{0, api.MaxClients + 1, usual, 1, api.ErrRange},
		{0, math.MaxInt, usual, 1, api.ErrRange},
		{0, math.MinInt, usual, 1, api.ErrRange},
		{0, 1, client.Setting{}, 1, api.ErrRange},
		{0, 1, client.Setting{Timeout: 1, Least: 2, Most: 1}, 1, api.ErrRange},
		{0, 1, usual, 0, api.ErrRange},
		{0, 1, usual, -1, api.ErrRange},
		{0, 1, usual, api.MaxKeys + 1, api.ErrRange},
		{0, 1, usual, math.MaxInt, api.ErrRange},
		{0, 1, usual, math.MinInt, api.ErrRange},
	} {
		p, err := platform.New(x.at, x.programs, x.s, x.keys, math.MaxUint64)
		if err != x.err || (p != nil) != (err == api.OK) {
			t.Errorf("New(%d, %d, %+v, %d): %v, %v, want %v", x.at, x.programs, x.s, x.keys, p, err, x.err)
		}
	}
}

// P25.1, P25.5: how a new one stands.
func TestNew(t *testing.T) {
	p, err := platform.New(700, 3, usual, 10, 7)
	ok(t, "New", err)
	c := p.Cluster()
	if p.Now() != 700 || c.Now() != 700 || !c.Up() || len(c.Grants()) != 0 || len(c.Server().Flows("cluster")) != 0 {
		t.Errorf("now %d, up %v, grants %v", p.Now(), c.Up(), c.Grants())
	}
	for i := range 3 {
		if p.Mode(i) != platform.Local || c.Connected(i) {
			t.Errorf("%d: mode %d, connected %v", i, p.Mode(i), c.Connected(i))
		}
		pending(t, p, i)
		decided(t, p, i)
		open(t, p, i)
		r, n := p.Engine(i).Rules()
		if !rules.Same(r, api.Rules{}) || n != 0 || len(p.Engine(i).Resources()) != 0 {
			t.Errorf("%d: rules %+v, replaced %d times, resources %v", i, r, n, p.Engine(i).Resources())
		}
		enter(t, p, i, call(), passed(1, 1))
	}
	ok(t, "Flows", p.Flows(rate(1, 5)))
	if s := p.Cluster().Server(); !s.Quiet(700+second-1, 1) || s.Quiet(700+second, 1) {
		t.Error("the server has not begun at 700")
	}
	for i := range 3 {
		do(t, p, of(cluster.Dial, i))
	}
	if err := p.Do(of(cluster.Dial, 3)); err != api.ErrRange {
		t.Errorf("Dial of 3: %v", err)
	}
}

// hotly is what becomes of calls of many values, each for one token, of which three a second may pass.
func hotly(t *testing.T, keys int, seed uint64, enter func(c api.Call) (int, api.Verdict)) string {
	t.Helper()
	told := ""
	for n := range 3000 {
		number, v := enter(call(args(fmt.Sprint(n * 7919 % 1009))))
		told += fmt.Sprint(number, v)
	}
	return told
}

// P25.1: keys, seed and setting are the engines' and the clients'.
func TestNewHandsOn(t *testing.T) {
	hots := api.Rules{Hots: []api.Hot{{Resource: "a", Count: 3, Seconds: 1}}}
	byEngine := func(keys int, seed uint64) string {
		e, err := slots.New(keys, seed)
		ok(t, "slots.New", err)
		ok(t, "Load", e.Load(hots))
		return hotly(t, keys, seed, func(c api.Call) (int, api.Verdict) {
			number, v, _ := e.Entry(c)
			return number, v
		})
	}
	p, err := platform.New(0, 2, client.Setting{Timeout: 77, Least: 5, Most: 6}, 20, 9)
	ok(t, "New", err)
	for i := range 2 {
		ok(t, "Load", p.Load(i, hots))
		told := hotly(t, 20, 9, func(c api.Call) (int, api.Verdict) {
			e, _ := p.Enter(i, c)
			return e.Number, e.Verdict
		})
		if told != byEngine(20, 9) {
			t.Errorf("%d: hot values pass otherwise than in an engine of 20 keys, of the seed 9", i)
		}
		if told == byEngine(20, 10) || told == byEngine(500, 9) {
			t.Error("the calls tell no seed, or no keys, apart")
		}
	}
	ok(t, "Flows", p.Flows(rate(1, 5)))
	connect(t, p, 1)
	work(t, p, 1, platform.Client, flowOf(1, asking(1)))
	enter(t, p, 1, call(), waits(3001))
	do(t, p, tick(76))
	pending(t, p, 1, 3001)
	do(t, p, tick(77))
	pending(t, p, 1)
}

// P25.1: Flows is the cluster's Load.
func TestFlows(t *testing.T) {
	p := newPlatform(t, 1)
	lease := token.Flow{Id: 2, Count: 3, Kind: token.Lease, Lease: second}
	ok(t, "Flows", p.Flows(rate(1, 5), lease))
	if err := p.Flows(rate(1, 6), rate(0, 1)); err != api.ErrForm {
		t.Errorf("a flow that is not right: %v", err)
	}
	if err := p.Flows(rate(1, 6), rate(1, 7)); err != api.ErrTwice {
		t.Errorf("a flow that stands there twice: %v", err)
	}
	if l := p.Cluster().Server().Flows("cluster"); !slices.Equal(l, []token.Flow{rate(1, 5), lease}) {
		t.Errorf("flows: %v", l)
	}
	ok(t, "Flows", p.Flows())
	if l := p.Cluster().Server().Flows("cluster"); len(l) != 0 {
		t.Errorf("flows: %v", l)
	}
}

// P25.1: Load is the engine's, and of one program.
func TestLoad(t *testing.T) {
	p := newPlatform(t, 2)
	r := api.Rules{Flows: []api.Flow{flowOf(1)}, Lists: []api.Authority{{Resource: "b", Origins: []string{"x"}}}}
	ok(t, "Load", p.Load(1, r))
	was := seen(p)
	for want, wrong := range map[api.Errno]api.Rules{
		api.ErrName: {Flows: []api.Flow{{Count: 1}}},
		api.ErrFlow: {Flows: []api.Flow{flowOf(-1)}},
		api.ErrList: {Lists: []api.Authority{{Resource: "b"}}},
		api.ErrLong: {Flows: make([]api.Flow, api.MaxRules+1)},
	} {
		if err := p.Load(1, wrong); err != want {
			t.Errorf("Load: %v, want %v", err, want)
		}
		same(t, "Load that is refused", p, was)
	}
	now, n := p.Engine(1).Rules()
	if !rules.Same(now, r) || n != 1 {
		t.Errorf("rules %+v, replaced %d times", now, n)
	}
	if now, n := p.Engine(0).Rules(); !rules.Same(now, api.Rules{}) || n != 0 {
		t.Errorf("the other program's rules %+v, replaced %d times", now, n)
	}
}

// P25.1: SetMode takes the three modes alone; Mode tells them, and 0 of no program.
func TestSetMode(t *testing.T) {
	p := newPlatform(t, 2)
	for _, m := range []platform.Mode{platform.Client, platform.Server, platform.Local} {
		ok(t, "SetMode", p.SetMode(1, m))
		for _, wrong := range []platform.Mode{0, 4, -1, math.MaxInt, math.MinInt} {
			if err := p.SetMode(1, wrong); err != api.ErrForm {
				t.Errorf("SetMode(1, %d): %v", wrong, err)
			}
		}
		if p.Mode(1) != m || p.Mode(0) != platform.Local {
			t.Errorf("modes %d, %d, want %d", p.Mode(0), p.Mode(1), m)
		}
	}
	if platform.Local != 1 || platform.Client != 2 || platform.Server != 3 {
		t.Error("the modes are others")
	}
}

// P25.1: Exit is the engine's, now.
func TestExit(t *testing.T) {
	p := newPlatform(t, 2)
	ok(t, "Load", p.Load(0, api.Rules{Breaks: []api.Break{{Resource: "a", Grade: api.ErrorCount, Least: 1, Window: second, Recover: second}}}))
	do(t, p, tick(100))
	enter(t, p, 0, call(), passed(1, 1))
	enter(t, p, 0, call(), passed(2, 2))
	enter(t, p, 0, call(), passed(3, 3))
	do(t, p, tick(350))
	ok(t, "Exit", p.Exit(0, 1, false))
	for number, want := range map[int]api.Errno{1: api.ErrDone, 0: api.ErrTicket, 4: api.ErrTicket, -1: api.ErrTicket, math.MaxInt: api.ErrTicket} {
		if err := p.Exit(0, number, false); err != want {
			t.Errorf("Exit of %d: %v, want %v", number, err, want)
		}
	}
	if err := p.Exit(1, 2, false); err != api.ErrTicket {
		t.Errorf("Exit of the other program's entry: %v", err)
	}
	open(t, p, 0, 2, 3)
	counts, err := p.Engine(0).Counts(350, "a")
	if want := (api.Counts{Pass: 3, Done: 1, RtSum: 250, MinRt: 250}); counts != want || err != api.OK || p.Engine(0).Last() != 350 {
		t.Errorf("counts %+v, %v, last %d", counts, err, p.Engine(0).Last())
	}
	ok(t, "Exit", p.Exit(0, 2, true))
	enter(t, p, 0, call(), platform.Entered{Ticket: 4, Verdict: api.Verdict{Reason: api.ByBreaker}})
}

// P25.1: all calls with a program have ErrRange, or tell nothing, if there is none, whatever else is wrong; nothing changes.
func TestNoProgram(t *testing.T) {
	p := served(t, 2, rate(1, 5))
	was := seen(p)
	for _, i := range []int{-1, 2, api.MaxClients, math.MaxInt, math.MinInt} {
		entered, errEnter := p.Enter(i, api.Call{})
		answers, errPut := p.Put(i, []byte("{\"cmd\":\"fetch\"}\n")...)
		if entered != (platform.Entered{}) || len(answers) != 0 {
			t.Errorf("%d: Enter %+v, Put %q", i, entered, answers)
		}
		for what, err := range map[string]api.Errno{
			"Load": p.Load(i, api.Rules{Flows: make([]api.Flow, 1)}), "SetMode": p.SetMode(i, 9), "Exit": p.Exit(i, 1, true), "Enter": errEnter, "Put": errPut,
		} {
			if err != api.ErrRange {
				t.Errorf("%s of %d: %v", what, i, err)
			}
		}
		if p.Decided(i) != nil || p.Pending(i) != nil || p.Engine(i) != nil || p.Mode(i) != 0 {
			t.Errorf("the program %d tells something", i)
		}
	}
	same(t, "calls without a program", p, was)
}

// P1, P25.1: a nil platform answers ErrNil ahead of all other errors, and else zero values.
func TestNil(t *testing.T) {
	var p *platform.Platform
	for _, i := range []int{0, 1, -1, math.MaxInt, math.MinInt} {
		entered, errEnter := p.Enter(i, api.Call{})
		answers, errPut := p.Put(i, 10)
		if entered != (platform.Entered{}) || len(answers) != 0 {
			t.Errorf("%d: Enter %+v, Put %q", i, entered, answers)
		}
		for what, err := range map[string]api.Errno{
			"Load": p.Load(i, api.Rules{}), "SetMode": p.SetMode(i, 9), "Exit": p.Exit(i, 1, true), "Enter": errEnter, "Put": errPut,
			"Flows": p.Flows(), "Flows of one": p.Flows(rate(0, 0)), "Do": p.Do(tick(0)), "Ask": p.Do(of(cluster.Ask, i)), "none": p.Do(cluster.Op{}),
		} {
			if err != api.ErrNil {
				t.Errorf("%s of nil: %v", what, err)
			}
		}
		if p.Decided(i) != nil || p.Pending(i) != nil || p.Engine(i) != nil || p.Mode(i) != 0 {
			t.Errorf("the program %d of nil tells something", i)
		}
	}
	if p.Cluster() != nil || p.Now() != 0 || p.Fork() != nil {
		t.Error("a nil platform has something")
	}
}
