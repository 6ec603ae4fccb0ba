package cluster_test

import (
	"math/rand"
	"slices"
	"testing"

	"spillway/api"
	"spillway/client"
	"spillway/cluster"
	"spillway/token"
)

// question is one that a client asked, and how often something of it was told.
type question struct {
	at      int
	request api.Request
	told    int
}

// town is a cluster, and what its clients asked.
type town struct {
	*cluster.Cluster
	t       *testing.T
	r       *rand.Rand
	timeout int
	asked   [][]question // of each client, in the order of numbers
	passed  int          // answers Granted that were told
	late    int          // grants of requests that fell back
}

func newTown(t *testing.T, seed int) *town {
	t.Helper()
	r := rand.New(rand.NewSource(int64(seed)))
	s := client.Setting{Timeout: pick(r, 20000, 150000, 500000), Least: 1000, Most: 20000}
	many := 1 + r.Intn(4)
	c, err := cluster.New(r.Intn(9), many, s)
	ok(t, "New", err)
	ok(t, "Load", c.Load(five, token.Flow{Id: 2, Count: 12, Kind: token.Rate}))
	return &town{Cluster: c, t: t, r: r, timeout: s.Timeout, asked: make([][]question, many)}
}

func (w *town) ask(i int) {
	q := wantFlow(1+w.r.Intn(2), 1+w.r.Intn(3))
	n, falls, err := w.Do(ask(i, q))
	ok(w.t, "Ask", err)
	if falls {
		return
	}
	q.Id = n
	w.asked[i] = append(w.asked[i], question{at: w.Now(), request: q})
	if len(w.asked[i]) != n {
		w.t.Fatalf("the number %d is given as the %dth", n, len(w.asked[i]))
	}
}

// hear holds P23.3: what is told as granted is a grant of that client, number, and request, made behind the asking; and it is told once.
func (w *town) hear(i int) {
	for _, k := range w.Told(i) {
		q := &w.asked[i][k.Id-1]
		q.told++
		if q.told > 1 {
			w.t.Fatalf("of %d of the client %d it is told twice", k.Id, i)
		}
		isOf := func(g cluster.Grant) bool { return g.Client == i && g.Id == k.Id }
		l := w.Grants()
		at := slices.IndexFunc(l, isOf)
		if k.Answer.Status != api.Granted {
			if k.Fallback && at >= 0 {
				w.late++
			}
			continue
		}
		w.passed++
		if at < 0 || l[at].Request != q.request || l[at].At < q.at || l[at].At > w.Now() || slices.ContainsFunc(l[at+1:], isOf) {
			w.t.Fatalf("told to %d is %+v, asked was %+v, but granted %v", i, k, *q, l)
		}
	}
}

func (w *town) step() {
	i := w.r.Intn(len(w.asked))
	switch n := w.r.Intn(400); {
	case n < 100:
		w.Do(tick(w.Now() + pick(w.r, 0, w.r.Intn(1000), w.r.Intn(100000), 1+w.r.Intn(w.timeout))))
		w.inTime()
	case n < 200:
		w.ask(i)
	case n < 290:
		w.Do(toServer(i, w.r.Intn(4*askSize)))
	case n < 370:
		w.Do(toClient(i, w.r.Intn(4*answerSize)))
	case n < 380:
		w.Direct(i, wantFlow(1+w.r.Intn(2), 1))
	case n < 383:
		w.Do(of(cluster.Cut, i))
	case n < 384:
		w.Do(of(cluster.Stop, 0))
	default:
		w.Do(of(cluster.Start, 0))
	}
	if !w.Connected(i) {
		w.Do(of(cluster.Dial, i))
	}
	w.hear(w.r.Intn(len(w.asked)))
}

// inTime holds P23.5: no request waits that was asked Timeout or more ago; and all that do not wait are told of.
func (w *town) inTime() {
	for i, l := range w.asked {
		w.hear(i)
		waits := w.Waiting(i)
		for n, q := range l {
			if is := slices.Contains(waits, n+1); is && w.Now()-q.at >= w.timeout || is == (q.told > 0) {
				w.t.Fatalf("of the client %d %d was asked at %d: at %d it waits: %v, told %d times", i, n+1, q.at, w.Now(), is, q.told)
			}
		}
	}
}

// slow holds P23.4: in any nine tenths of a second no more of a flow is granted than its Count.
func (w *town) slow(flow, count int) (most int) {
	var l []cluster.Grant
	for _, g := range w.Grants() {
		if g.Request.Flow == flow {
			l = append(l, g)
		}
	}
	for i, last := range l {
		sum := 0
		for _, g := range l[:i+1] {
			if g.At > last.At-second*9/10 {
				sum += g.Request.Count
			}
		}
		if most = max(most, sum); sum > count {
			w.t.Fatalf("of the flow %d %d are granted up to %d", flow, sum, last.At)
		}
	}
	return most
}

// P23.3, P23.4, P23.5, E6, E7: over streams that are moved, cut, and broken, and over servers that fall and come back.
func TestFollow(t *testing.T) {
	var passed, late, starts, full int
	for seed := range 60 {
		w := newTown(t, seed)
		up := true
		for range 3000 {
			w.step()
			if !up && w.Up() {
				starts++
			}
			up = w.Up()
		}
		w.Do(tick(w.Now() + w.timeout))
		w.inTime()
		for i := range w.asked {
			waiting(t, w.Cluster, i)
		}
		passed, late = passed+w.passed, late+w.late
		if w.slow(1, 5) == 5 {
			full++
		}
		w.slow(2, 12)
	}
	if passed < 500 || late < 50 || starts < 100 || full < 30 {
		t.Errorf("%d were told as granted, %d granted fell back, %d starts, %d times all was granted", passed, late, starts, full)
	}
	t.Log(passed, late, starts, full)
}

// P23.4: what was granted ahead of a Stop counts behind the Start, as the server is quiet till it does not any more.
func TestQuietBehindStart(t *testing.T) {
	c := loaded(t, 1, five)
	connect(t, c, 0)
	do(t, c, tick(2*second))
	asks(t, c, 0, wantFlow(1, 5), 1)
	move(t, c, 0)
	do(t, c, of(cluster.Stop, 0))
	do(t, c, of(cluster.Start, 0))
	for at := 2*second + 100; at <= 4*second; at += 50000 {
		do(t, c, tick(at))
		if !c.Connected(0) {
			connect(t, c, 0)
		}
		_, _, err := c.Do(ask(0, wantFlow(1, 1)))
		ok(t, "Ask", err)
		move(t, c, 0)
	}
	l := c.Grants()
	if len(l) != 6 || l[1].At != 3*second+100 {
		t.Errorf("%d grants, the second one at %d", len(l), l[1].At)
	}
}
