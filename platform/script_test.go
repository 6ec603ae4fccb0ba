package platform_test

import (
	"math/rand"
	"slices"
	"testing"

	"spillway/api"
	"spillway/client"
	"spillway/cluster"
	"spillway/platform"
	"spillway/token"
)

// pair is a platform and its model.
type pair struct {
	*platform.Platform
	*model
	t       *testing.T
	r       *rand.Rand
	counted map[string]int
}

func newPair(t *testing.T, r *rand.Rand, counted map[string]int) pair {
	t.Helper()
	s := client.Setting{Timeout: pick(r, 1000, 100000, 500000), Least: 100, Most: 750}
	at, programs, keys, seed := r.Intn(9), 1+r.Intn(3), 1+r.Intn(20), r.Uint64()
	p, err := platform.New(at, programs, s, keys, seed)
	ok(t, "New", err)
	return pair{p, newModel(t, at, programs, s, keys, seed), t, r, counted}
}

func (p pair) fork() pair {
	p.Platform, p.model = p.Platform.Fork(), p.model.fork()
	return p
}

// stands holds that both tell the same of themselves.
func (p pair) stands(what string) {
	p.t.Helper()
	if is, want := seen(p.Platform), p.model.seen(); is != want {
		p.t.Fatalf("behind %s: the platform stands as\n%s\nthe model as\n%s", what, is, want)
	}
}

func anyFlowRule(r *rand.Rand) api.Flow {
	f := flowOf(pick(r, 1, 3, 9, 50), ofResource(pick(r, "a", "a", "a", "b")), ofOrigin(pick(r, api.DefaultName, api.DefaultName, "x", api.OtherName)))
	switch r.Intn(8) {
	case 0:
		f.Threads = true
	case 1:
		f.Shape, f.Queue = api.Pace, pick(r, 0, 300000)
	case 2:
	default:
		f.Cluster, f.Id, f.Fallback = true, 1+r.Intn(4), r.Intn(3) > 0
	}
	return f
}

func anyRules(r *rand.Rand) api.Rules {
	var all api.Rules
	for range 1 + r.Intn(5) {
		all.Flows = append(all.Flows, anyFlowRule(r))
	}
	if r.Intn(4) == 0 {
		all.Breaks = append(all.Breaks, api.Break{Resource: "a", Grade: api.ErrorCount, Count: 1, Least: 1, Window: second, Recover: second})
	}
	if r.Intn(4) == 0 {
		all.Hots = append(all.Hots, api.Hot{Resource: "b", Count: 3, Seconds: 1})
	}
	if r.Intn(6) == 0 {
		all.Systems = append(all.Systems, api.System{Qps: 30, Threads: -1, Rt: -1, Load: -1, Cpu: 500})
	}
	if r.Intn(6) == 0 {
		all.Lists = append(all.Lists, api.Authority{Resource: "a", Origins: []string{"y"}})
	}
	return all
}

func anyCall(r *rand.Rand) api.Call {
	c := call(resource(pick(r, "a", "a", "a", "b", "c", `"\`)), from(pick(r, "", "", "x", "y", "z")), tokens(1+r.Intn(3)))
	c.At, c.Inbound = r.Intn(9), r.Intn(2) == 0
	if r.Intn(3) == 0 {
		c.Args = []string{pick(r, "u", "v", "w", "")}
	}
	if r.Intn(30) == 0 {
		c.Count = 0
	}
	return c
}

func anyServerFlows(r *rand.Rand) []token.Flow {
	l := []token.Flow{rate(1, pick(r, 0, 4, 50)), rate(2, 30), lease(3), rate(4, pick(r, 2, api.MaxCount))}
	return l[:1+r.Intn(4)]
}

func (p pair) anyOp() cluster.Op {
	r, i := p.r, p.r.Intn(len(p.members))
	now := p.cluster.Now()
	switch n := r.Intn(100); {
	case !p.cluster.Up() && n < 60:
		return of(cluster.Start, i)
	case !p.cluster.Connected(i) && n < 90:
		return pick(r, of(cluster.Dial, i), tick(now+usual.Most))
	case n < 15:
		return tick(pick(r, now, now+1, now+r.Intn(300), now+r.Intn(2000), now+r.Intn(100000), now+second, now+second, now-1))
	case n < 50:
		return bytes(cluster.ToServer, i, pick(r, 1, r.Intn(99), all, all))
	case n < 96:
		return bytes(cluster.ToClient, i, pick(r, 1, r.Intn(99), all, all))
	}
	return of(pick(r, cluster.Cut, cluster.Stop, cluster.Start, cluster.Ask, 0, 99), i)
}

// what tells how a call that is decided ended.
func what(e platform.Entered) string {
	switch {
	case e.Pending:
		return "pending"
	case e.Granted:
		return "granted"
	case e.Number > 0:
		return "passed"
	}
	return "blocked"
}

func (p pair) enters(i int, c api.Call) {
	p.t.Helper()
	e, err := p.Platform.Enter(i, c)
	want, wantErr := p.model.enter(i, c)
	if e != want || err != wantErr {
		p.t.Fatalf("Enter(%d, %+v): %+v, %v, want %+v, %v", i, c, e, err, want, wantErr)
	}
	mode := string('0' + rune(p.members[i].mode))
	if err != api.OK {
		p.counted["enter refused"]++
		return
	}
	p.counted["enter "+mode+" "+what(e)]++
	if r := p.members[i].records[e.Ticket-1]; len(r.answers) > 0 && r.answers[len(r.answers)-1] == api.Refused {
		p.counted["enter "+mode+" blocked by the server"]++
	}
}

func (p pair) does(o cluster.Op) {
	p.t.Helper()
	was := len(p.cluster.Grants())
	err, want := p.Platform.Do(o), p.model.do(o)
	if err != want {
		p.t.Fatalf("Do(%+v): %v, want %v", o, err, want)
	}
	if err != api.OK {
		p.counted["do refused"]++
	}
	if len(p.cluster.Grants()) > was {
		p.counted["do granted"]++
	}
}

func (p pair) tells(i int) {
	p.t.Helper()
	for _, n := range p.members[i].untold {
		r := p.members[i].records[n]
		p.counted["decided "+what(r.became)]++
		if len(r.answers) > 1 {
			p.counted["decided behind 2"]++
		}
		if r.answers[len(r.answers)-1] == api.Refused {
			p.counted["decided blocked by the server"]++
		}
	}
	if l, want := p.Platform.Decided(i), p.members[i].decided(); !slices.Equal(l, want) {
		p.t.Fatalf("Decided(%d): %+v, want %+v", i, l, want)
	}
}

func (p pair) puts(i int) {
	p.t.Helper()
	text := anyLine(p.t, p.r)
	n := p.r.Intn(len(text) + 1)
	for _, part := range []string{text[:n], text[n:]} {
		l, err := p.Platform.Put(i, []byte(part)...)
		if want := p.model.put(i, part); !slices.Equal(l, want) || err != api.OK {
			p.t.Fatalf("Put(%d, %q): %q, %v, want %q", i, part, l, err, want)
		}
		for _, a := range l {
			p.counted[map[bool]string{true: "put ok", false: "put failed"}[a[6] == 't']]++
		}
	}
}

func (p pair) exits(i int) {
	p.t.Helper()
	e := p.members[i].engine
	number, fails := 1+p.r.Intn(9), p.r.Intn(3) == 0
	if l := e.Open(); len(l) > 0 && p.r.Intn(8) > 0 {
		number = pick(p.r, l...)
	}
	err, want := p.Platform.Exit(i, number, fails), e.Exit(number, p.cluster.Now(), fails)
	if err != want {
		p.t.Fatalf("Exit(%d, %d): %v, want %v", i, number, err, want)
	}
	if err == api.OK {
		p.counted["exit"]++
	}
}

func (p pair) loads(i int) {
	p.t.Helper()
	r := anyRules(p.r)
	if err, want := p.Platform.Load(i, r), p.members[i].engine.Load(r); err != want {
		p.t.Fatalf("Load: %v, want %v", err, want)
	}
	p.counted["load"]++
}

// flood lets a program ask till its connection has no room.
func (p pair) flood(i int) {
	p.t.Helper()
	r := api.Rules{Flows: []api.Flow{flowOf(9, asking(1)), flowOf(50, asking(4), fallback)}}
	ok(p.t, "Load", p.Platform.Load(i, r))
	ok(p.t, "Load", p.members[i].engine.Load(r))
	ok(p.t, "SetMode", p.Platform.SetMode(i, platform.Client))
	p.members[i].mode = platform.Client
	for n := 0; p.cluster.Connected(i) && n < 3000; n++ {
		if len(p.members[i].pending()) == api.MaxPending || p.r.Intn(100) == 0 {
			p.does(tick(p.cluster.Now() + pick(p.r, 250, 250, 500000)))
			p.does(bytes(cluster.ToClient, i, pick(p.r, 0, 100, 400)))
		}
		p.enters(i, call(tokens(1)))
		if p.r.Intn(300) == 0 {
			p.does(bytes(cluster.ToServer, i, p.r.Intn(300)))
		}
		if !p.cluster.Connected(i) {
			p.counted["no room"]++
		}
	}
}

func (p pair) step() {
	p.t.Helper()
	i := p.r.Intn(len(p.members))
	switch n := p.r.Intn(1000); {
	case n < 450:
		p.enters(i, anyCall(p.r))
	case n < 800:
		p.does(p.anyOp())
	case n < 850:
		p.tells(i)
	case n < 900:
		p.exits(i)
	case n < 930:
		p.puts(i)
	case n < 950:
		p.loads(i)
	case n < 975:
		m := pick(p.r, platform.Local, platform.Client, platform.Client, platform.Server)
		ok(p.t, "SetMode", p.Platform.SetMode(i, m))
		p.members[i].mode = m
	case n < 985:
		l := anyServerFlows(p.r)
		if err, want := p.Platform.Flows(l...), p.cluster.Load(l...); err != want {
			p.t.Fatalf("Flows: %v, want %v", err, want)
		}
	}
}

// runScript is of many steps; floods: one of them is a flood.
func runScript(t *testing.T, r *rand.Rand, floods bool, counted map[string]int) {
	t.Helper()
	p := newPair(t, r, counted)
	for i := range p.members {
		p.loads(i)
		p.does(of(cluster.Dial, i))
	}
	ok(t, "Flows", p.Platform.Flows(rate(1, 4), rate(2, 30), lease(3)))
	ok(t, "Load", p.cluster.Load(rate(1, 4), rate(2, 30), lease(3)))
	p.does(tick(second + 9))
	for n := range 400 {
		p.step()
		if floods && n >= 200 && p.cluster.Connected(0) {
			p.flood(0)
			floods = false
		}
		if n%20 == 0 {
			p.stands("a step")
		}
		if r.Intn(100) == 0 {
			f := p.fork()
			for range 30 {
				f.step()
			}
			f.stands("a fork's steps")
			p.stands("a fork's steps, of which it was forked")
			counted["forked"]++
			if r.Intn(2) == 0 {
				p = f
			}
		}
	}
}
