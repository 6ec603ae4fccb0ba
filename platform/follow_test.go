package platform_test

import (
	"math/rand"
	"slices"
	"testing"

	"spillway/api"
	"spillway/client"
	"spillway/cluster"
	"spillway/platform"
)

// wish is a call that had a ticket: which flows of the server were asked for it, when it entered, and when it was decided.
type wish struct {
	flows      []int
	count      int
	at, behind int
	became     platform.Entered
}

// town is a platform, and what its programs wished.
type town struct {
	*platform.Platform
	t       *testing.T
	r       *rand.Rand
	timeout int
	wishes  [][]wish
}

// counts are what the server grants of its flows, by their Ids.
var counts = [...]int{1: 5, 2: 12}

// newTown has programs whose rules ask for one flow of a, and of b for another one, or for both.
func newTown(t *testing.T, seed int) *town {
	t.Helper()
	r := rand.New(rand.NewSource(int64(seed)))
	s := client.Setting{Timeout: pick(r, 20000, 150000, 500000), Least: 1000, Most: 20000}
	many := 1 + r.Intn(4)
	p, err := platform.New(r.Intn(9), many, s, 100, 1)
	ok(t, "New", err)
	ok(t, "Flows", p.Flows(rate(1, counts[1]), rate(2, counts[2])))
	w := &town{p, t, r, s.Timeout, make([][]wish, many)}
	for i := range many {
		work(t, p, i, pick(r, platform.Client, platform.Client, platform.Server),
			flowOf(3, asking(1), fallback), flowOf(20, ofResource("b"), asking(2), fallback), flowOf(20, ofResource("c"), asking(2)), flowOf(20, ofResource("c"), asking(1)))
	}
	return w
}

func (w *town) enter(i int) {
	name := pick(w.r, "a", "a", "b", "c", "d")
	c := call(resource(name), tokens(1+w.r.Intn(3)))
	e, err := w.Enter(i, c)
	ok(w.t, "Enter", err)
	one := wish{flows: map[string][]int{"a": {1}, "b": {2}, "c": {2, 1}}[name], count: c.Count, at: w.Now(), became: e}
	if !e.Pending {
		one.behind = w.Now()
	}
	w.wishes[i] = append(w.wishes[i], one)
	if len(w.wishes[i]) != e.Ticket {
		w.t.Fatalf("the ticket %d is the %dth", e.Ticket, len(w.wishes[i]))
	}
}

// hear holds that what is told was pending, and is told once.
func (w *town) hear(i int) {
	for _, e := range w.Decided(i) {
		one := &w.wishes[i][e.Ticket-1]
		if !one.became.Pending || e.Pending || slices.Contains(w.Pending(i), e.Ticket) {
			w.t.Fatalf("told is %+v, which was %+v", e, one.became)
		}
		one.became, one.behind = e, w.Now()
	}
}

func (w *town) step() {
	i := w.r.Intn(len(w.wishes))
	switch n := w.r.Intn(400); {
	case n < 80:
		w.Do(tick(w.Now() + pick(w.r, 0, w.r.Intn(1000), w.r.Intn(100000), 1+w.r.Intn(w.timeout))))
		w.inTime()
	case n < 200:
		w.enter(i)
	case n < 290:
		w.Do(bytes(cluster.ToServer, i, w.r.Intn(200)))
	case n < 380:
		w.Do(bytes(cluster.ToClient, i, w.r.Intn(200)))
	case n < 385:
		w.Do(of(cluster.Cut, i))
	case n < 386:
		w.Do(of(cluster.Stop, 0))
	default:
		w.Do(of(cluster.Start, 0))
	}
	if !w.Cluster().Connected(i) {
		w.Do(of(cluster.Dial, i))
	}
	w.hear(i)
}

// inTime holds P25.8: no call is pending for longer than Timeout for each of its rules.
func (w *town) inTime() {
	for i, l := range w.wishes {
		w.hear(i)
		waits := w.Pending(i)
		for n, one := range l {
			if is := slices.Contains(waits, n+1); is != one.became.Pending || is && w.Now()-one.at >= w.timeout*len(one.flows) {
				w.t.Fatalf("of the program %d %d entered at %d: at %d it is pending: %v, told %+v", i, n+1, one.at, w.Now(), is, one.became)
			}
		}
	}
}

// granted holds P25.6, E6: each entry that is granted has grants of its own, of all of its flows, made by the same client, behind its Enter and ahead of what was told. How many there are is told.
func (w *town) granted() int {
	free := w.Cluster().Grants()
	many := 0
	for i, l := range w.wishes {
		for n, one := range l {
			if !one.became.Granted {
				continue
			}
			many++
			for _, flow := range one.flows {
				at := slices.IndexFunc(free, func(g cluster.Grant) bool {
					return g.Client == i && g.Request.Flow == flow && g.Request.Count == one.count && g.At >= one.at && g.At <= one.behind
				})
				if at < 0 {
					w.t.Fatalf("of the program %d %d is granted, for which nothing of the flow %d was granted: %+v", i, n+1, flow, one)
				}
				free = slices.Delete(free, at, at+1)
			}
		}
	}
	return many
}

// slow holds E6: in any nine tenths of a second no more of a flow is granted than its Count. The most is told.
func (w *town) slow(flow int) (most int) {
	var l []cluster.Grant
	for _, g := range w.Cluster().Grants() {
		if g.Request.Flow == flow {
			l = append(l, g)
		}
	}
	for i, last := range l {
		sum := 0
		for _, g := range l[:i+1] {
			if g.At > last.At-second*9/10 {
				sum += g.Request.Count
			}
		}
		if most = max(most, sum); sum > counts[flow] {
			w.t.Fatalf("of the flow %d %d are granted up to %d", flow, sum, last.At)
		}
	}
	return most
}

// P25.6, P25.8, E6, E7: over streams that are moved and cut, and over servers that fall and come back.
func TestFollow(t *testing.T) {
	var granted, full, fell, late int
	for seed := range 40 {
		w := newTown(t, seed)
		for range 1500 {
			w.step()
		}
		for range 2 { // of c two rules ask
			do(t, w.Platform, tick(w.Now()+w.timeout))
			w.inTime()
		}
		for i := range w.wishes {
			pending(t, w.Platform, i)
			for _, one := range w.wishes[i] {
				if one.became.Number > 0 && !one.became.Granted && len(one.flows) > 0 {
					fell++
				}
				if one.became.Granted && one.behind-one.at > w.timeout/2 {
					late++
				}
			}
		}
		granted += w.granted()
		if w.slow(1) == counts[1] {
			full++
		}
		w.slow(2)
	}
	if granted < 500 || full < 20 || fell < 500 || late < 20 {
		t.Errorf("%d are granted, %d late, %d fell back, %d times all was granted", granted, late, fell, full)
	}
	t.Log(granted, full, fell, late)
}

// P25.8: as many Ticks by Timeout as rules ask.
func TestTickForEachRule(t *testing.T) {
	p := served(t, 1, rate(1, 50))
	connect(t, p, 0)
	work(t, p, 0, platform.Client, flowOf(9, asking(1)), flowOf(9, asking(1)), flowOf(9, asking(1)))
	enter(t, p, 0, call(), waits(1))
	for n := range 2 {
		do(t, p, bytes(cluster.ToServer, 0, all), tick(p.Now()+usual.Timeout-1), bytes(cluster.ToClient, 0, all))
		pending(t, p, 0, 1)
		grants(t, p, [][4]int{{0, 1, 1, 1}, {0, 2, 1, 1}}[:n+1]...)
	}
	do(t, p, tick(p.Now()+usual.Timeout-1))
	pending(t, p, 0, 1)
	do(t, p, tick(p.Now()+1))
	decided(t, p, 0, passed(1, 1))
}

// crowd lets calls of one resource enter and end for a while, in any mode; each that passes is told of, with when, and how long it waits. Behind each step the entries that are open are looked at.
func crowd(t *testing.T, r api.Rules, seed int, look func(p *platform.Platform)) (l []platform.Entered, at []int) {
	t.Helper()
	rnd := rand.New(rand.NewSource(int64(seed)))
	p := served(t, 1, rate(1, 9))
	ok(t, "Load", p.Load(0, r))
	note := func(e platform.Entered) {
		if e.Number > 0 {
			l, at = append(l, e), append(at, p.Now())
		}
	}
	for range 800 {
		switch n := rnd.Intn(20); {
		case n < 10:
			e, err := p.Enter(0, call(tokens(1+rnd.Intn(2))))
			ok(t, "Enter", err)
			note(e)
		case n < 12:
			do(t, p, tick(p.Now()+rnd.Intn(150000)))
		case n < 15:
			p.Do(bytes(cluster.ToServer, 0, rnd.Intn(200)))
			p.Do(bytes(cluster.ToClient, 0, rnd.Intn(200)))
		case n < 17:
			if open := p.Engine(0).Open(); len(open) > 0 {
				ok(t, "Exit", p.Exit(0, pick(rnd, open...), rnd.Intn(2) == 0))
			}
		case n < 18:
			ok(t, "SetMode", p.SetMode(0, pick(rnd, platform.Local, platform.Client, platform.Server)))
		default:
			p.Do(of(cluster.Dial, 0))
		}
		for _, e := range p.Decided(0) {
			note(e)
		}
		look(p)
	}
	return l, at
}

// E1, E2, E3: whoever asks, and however late a call is decided, a program's own rules hold.
func TestOwnRules(t *testing.T) {
	asks := flowOf(9, asking(1), fallback)
	for seed := range 20 {
		look := func(*platform.Platform) {}
		l, at := crowd(t, api.Rules{Flows: []api.Flow{asks, flowOf(6)}}, seed, func(p *platform.Platform) {
			if c, _ := p.Engine(0).Counts(p.Now(), "a"); c.Pass > 6 {
				t.Fatalf("%d tokens passed", c.Pass)
			}
		})
		first := 0
		for n := range l { // each for one token at least
			for at[first] <= at[n]-second*9/10 {
				first++
			}
			if n-first+1 > 6 {
				t.Fatalf("from %d to %d %d pass", at[first], at[n], n-first+1)
			}
		}

		l, at = crowd(t, api.Rules{Flows: []api.Flow{asks, flowOf(10, func(r *api.Flow) { r.Shape, r.Queue = api.Pace, 150000 })}}, seed, look)
		goes := -second
		for n, e := range l {
			if e.Verdict.Wait > 150000 || at[n]+e.Verdict.Wait < goes+second/10 {
				t.Fatalf("at %d one waits %d, behind one that went at %d", at[n], e.Verdict.Wait, goes)
			}
			goes = at[n] + e.Verdict.Wait
		}

		crowd(t, api.Rules{Flows: []api.Flow{asks, flowOf(4, func(r *api.Flow) { r.Threads = true })}}, seed, func(p *platform.Platform) {
			if n := len(p.Engine(0).Open()); n > 4 {
				t.Fatalf("%d entries are open", n)
			}
		})
		if len(l) < 30 {
			t.Errorf("%d pass", len(l))
		}
	}
}

// E4: a breaker that is open lets nothing pass ahead of its time, though the server granted it; then one.
func TestBreaker(t *testing.T) {
	p := served(t, 1, rate(1, 50))
	connect(t, p, 0)
	ok(t, "Load", p.Load(0, api.Rules{
		Flows:  []api.Flow{flowOf(50, asking(1))},
		Breaks: []api.Break{{Resource: "a", Grade: api.ErrorRatio, Count: 500, Least: 5, Window: second, Recover: second}},
	}))
	ok(t, "SetMode", p.SetMode(0, platform.Client))
	byBreaker := func(ticket int) platform.Entered {
		return platform.Entered{Ticket: ticket, Verdict: api.Verdict{Reason: api.ByBreaker}, Granted: true}
	}
	for n := range 5 {
		enter(t, p, 0, call(), waits(n+1))
	}
	move(t, p, 0)
	for n := range 5 {
		ok(t, "Exit", p.Exit(0, n+1, n < 3))
	}
	p.Decided(0)
	enter(t, p, 0, call(), waits(6))
	move(t, p, 0)
	decided(t, p, 0, byBreaker(6))
	do(t, p, tick(2*second))
	enter(t, p, 0, call(), waits(7))
	enter(t, p, 0, call(), waits(8))
	move(t, p, 0)
	decided(t, p, 0, granted(7, 6), byBreaker(8))
	ok(t, "Exit", p.Exit(0, 6, false))
	enter(t, p, 0, call(), waits(9))
	move(t, p, 0)
	decided(t, p, 0, granted(9, 7))
}
