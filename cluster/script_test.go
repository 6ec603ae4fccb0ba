package cluster_test

import (
	"fmt"
	"math/rand"
	"slices"
	"testing"

	"spillway/api"
	"spillway/client"
	"spillway/cluster"
	"spillway/token"
)

// pair is a cluster and its model.
type pair struct {
	*cluster.Cluster
	*model
}

func pick[T any](r *rand.Rand, l ...T) T { return l[r.Intn(len(l))] }

func anyRequest(r *rand.Rand) api.Request {
	return pick(r,
		wantFlow(1+r.Intn(4), 1+r.Intn(3)), wantFlow(1, 1), wantFlow(1, 1),
		api.Request{Id: 5, Want: api.WantParam, Flow: 2, Count: 1 + r.Intn(2), Text: pick(r, "", "a", "vip")},
		api.Request{Want: api.WantToken, Flow: 3, Count: 1},
		api.Request{Want: api.GiveBack, Token: 1 + r.Intn(9)},
		pick(r, wantFlow(0, 1), api.Request{Want: api.Hello, Text: "cluster"}, api.Request{}))
}

func anyFlows(r *rand.Rand) []token.Flow {
	l := []token.Flow{
		{Id: 1, Count: pick(r, 3, 20, api.MaxCount), Kind: token.Rate},
		{Id: 2, Count: 5, Kind: token.Value},
		{Id: 3, Count: 4, Kind: token.Lease, Lease: pick(r, 1, 2) * second},
	}
	return l[:1+r.Intn(3)]
}

// later is a time that is not ahead of now, often just where a request falls back, or where somebody may dial.
func (p pair) later(r *rand.Rand) int {
	now := p.model.now
	c := p.members[r.Intn(len(p.members))]
	if l := c.waiting(); len(l) > 0 && r.Intn(8) == 0 {
		return max(now, c.taken[l[0]-1].at+p.s.Timeout-r.Intn(2))
	}
	if r.Intn(4) == 0 {
		return max(now, c.from-r.Intn(2))
	}
	return now + pick(r, 0, 1, r.Intn(p.s.Timeout/3+2), r.Intn(200000), r.Intn(2*p.s.Least), second*(1-min(1, r.Intn(6))))
}

func (p pair) anyOp(r *rand.Rand) cluster.Op {
	i := r.Intn(len(p.members))
	switch n := r.Intn(200); {
	case n < 40:
		if r.Intn(40) == 0 {
			return tick(pick(r, -1, p.model.now-1, api.MaxTime+1))
		}
		return tick(p.later(r))
	case n < 80:
		return ask(i, anyRequest(r))
	case n < 100:
		return of(cluster.Dial, i)
	case n < 140:
		return toServer(i, pick(r, 0, 1, r.Intn(2*askSize), 9*askSize, all, r.Intn(9)-1))
	case n < 190:
		return toClient(i, pick(r, 0, 1, r.Intn(2*answerSize), 9*answerSize, all, r.Intn(9)-1))
	case n < 195:
		return of(cluster.Cut, i)
	case n < 197 || !p.up && r.Intn(3) > 0:
		return of(cluster.Start, 0)
	}
	return of(pick(r, cluster.Stop, cluster.Cut), i)
}

// does does an operation with both; what it tells is what was wrong.
func (p pair) does(o cluster.Op, counted map[string]int) string {
	n, falls, err := p.Cluster.Do(o)
	wantN, wantFalls, want := p.model.do(o)
	counted[fmt.Sprintf("%d %d %v", o.Kind, want, wantFalls)]++
	if n != wantN || falls != wantFalls || err != want {
		return fmt.Sprintf("%+v: %d, %v, %v, want %d, %v, %v", o, n, falls, err, wantN, wantFalls, want)
	}
	return ""
}

// flood lets a client ask till a connection has no room: there, or back.
func (p pair) flood(r *rand.Rand, counted map[string]int) string {
	i := r.Intn(len(p.members))
	comes := r.Intn(2) == 0
	c := p.members[i]
	for n := 0; c.conn > 0 && n < 2000; n++ {
		if len(c.waiting()) == api.MaxPending {
			if wrong := p.does(tick(p.model.now+p.s.Timeout), counted); wrong != "" {
				return wrong
			}
		}
		if wrong := p.does(ask(i, wantFlow(1, 1)), counted); wrong != "" {
			return wrong
		}
		if comes && n%20 == 0 {
			if wrong := p.does(toServer(i, all), counted); wrong != "" {
				return wrong
			}
		}
		if c.conn == 0 {
			counted[fmt.Sprint("no room ", comes)]++
		}
	}
	return ""
}

// step does one thing with both; what it tells is what was wrong.
func (p pair) step(r *rand.Rand, counted map[string]int) string {
	switch n := r.Intn(1000); {
	case n == 0:
		return p.flood(r, counted)
	case n < 10:
		l := anyFlows(r)
		if got, want := p.Load(l...), p.server.Load("cluster", l...); got != want {
			return fmt.Sprint("Load ", got, want)
		}
	case n < 40:
		i, q := r.Intn(len(p.members)), anyRequest(r)
		a, err := p.Direct(i, q)
		want, wantErr := p.direct(i, q)
		counted[fmt.Sprint("Direct ", wantErr, want.Status)]++
		if a != want || err != wantErr {
			return fmt.Sprintf("Direct(%d, %+v): %+v, %v, want %+v, %v", i, q, a, err, want, wantErr)
		}
	case n < 120:
		i := r.Intn(len(p.members))
		for _, k := range p.members[i].told {
			counted[fmt.Sprint("Told ", k.Answer.Status)]++
		}
		if l := p.Told(i); !slices.Equal(l, p.members[i].told) {
			return fmt.Sprint("Told ", i, l, p.members[i].told)
		}
		p.members[i].told = nil
	default:
		return p.does(p.anyOp(r), counted)
	}
	return ""
}

// differs tells where they stand otherwise.
func (p pair) differs() string {
	if p.Now() != p.model.now || p.Up() != p.up || !slices.Equal(p.Grants(), p.model.grants) {
		return fmt.Sprint("now ", p.Now(), p.model.now, p.Up(), p.up, len(p.Grants()), len(p.model.grants))
	}
	for i, c := range p.members {
		out, back := p.Way(i)
		if p.Connected(i) != (c.conn > 0) || !slices.Equal(p.Waiting(i), c.waiting()) || out != c.out.under() || back != c.back.under() {
			return fmt.Sprint("client ", i, " ", p.Connected(i), c.conn, p.Waiting(i), c.waiting(), out, back, c.out.under(), c.back.under())
		}
	}
	return ""
}

// serverDiffers tells where the servers stand otherwise.
func (p pair) serverDiffers() string {
	a, b := p.Server(), p.server
	if !slices.Equal(a.Conns(), b.Conns()) || a.Last() != b.Last() {
		return fmt.Sprint("servers: ", a.Conns(), b.Conns(), a.Last(), b.Last())
	}
	for _, conn := range a.Conns() {
		if a.Of(conn) != b.Of(conn) {
			return fmt.Sprint("of ", conn, a.Of(conn), b.Of(conn))
		}
	}
	for id := range 4 {
		used, err := a.Used(p.Now(), id)
		want, wantErr := b.Used(p.Now(), id)
		if used != want || err != wantErr || a.Quiet(p.Now(), id) != b.Quiet(p.Now(), id) {
			return fmt.Sprint("used of ", id, used, want)
		}
	}
	return ""
}

// P23.1, P23.2, P4: clusters, and forks of them, do with scripts of any kind what the document tells of them.
func TestModel(t *testing.T) {
	counted := map[string]int{}
	for seed := range 120 {
		r := rand.New(rand.NewSource(int64(seed)))
		s := client.Setting{Timeout: pick(r, 1, 1000, 300000), Least: pick(r, 1, 50, 100000)}
		s.Most = s.Least * pick(r, 1, 3, 50)
		at, clients := r.Intn(1000), 1+r.Intn(4)
		c, err := cluster.New(at, clients, s)
		ok(t, "New", err)
		pairs := []pair{{c, newModel(at, clients, s)}}
		if l := anyFlows(r); r.Intn(4) > 0 {
			ok(t, "Load", c.Load(l...))
			ok(t, "Load", pairs[0].server.Load("cluster", l...))
		}
		for i := range 800 {
			p := pairs[r.Intn(len(pairs))]
			wrong := p.step(r, counted)
			if wrong == "" {
				wrong = p.differs()
			}
			if wrong == "" && i%20 == 0 {
				wrong = p.serverDiffers()
			}
			if wrong != "" {
				t.Fatalf("seed %d, step %d: %s", seed, i, wrong)
			}
			if r.Intn(300) == 0 {
				pairs = append(pairs, pair{p.Cluster.Fork(), p.model.fork()})
			}
		}
	}
	for _, what := range []string{
		"1 0 false", "1 2 false", "1 7 false", "2 0 false", "2 0 true", "2 6 false", "3 0 false", "3 52 false", "3 4 false", "3 51 false",
		"4 0 false", "4 2 false", "4 51 false", "5 0 false", "5 2 false", "5 51 false", "6 0 false", "6 51 false", "7 0 false", "7 51 false", "8 0 false", "8 52 false",
		"Told 0", "Told 1", "Told 2", "Told 4", "Told 7", "Direct 0 1", "Direct 0 2", "Direct 0 4", "Direct 0 5", "Direct 0 7", "Direct 51 0", "no room true", "no room false",
	} {
		if counted[what] < 10 {
			t.Errorf("%s: %d times", what, counted[what])
		}
	}
	t.Log(counted)
}
