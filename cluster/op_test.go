package cluster_test

import (
	"math"
	"slices"
	"testing"

	"spillway/api"
	"spillway/client"
	"spillway/cluster"
	"spillway/token"
)

// P23.1: Tick's errors, and that requests fall back by it just when Timeout has gone by.
func TestTick(t *testing.T) {
	c := newCluster(t, 2)
	connect(t, c, 0, 1)
	do(t, c, tick(50))
	asks(t, c, 1, wantFlow(1, 1), 1)
	do(t, c, tick(60))
	asks(t, c, 0, wantFlow(1, 1), 1)
	asks(t, c, 1, wantFlow(1, 1), 2)
	for _, at := range []int{-1, math.MinInt, api.MaxTime + 1, math.MaxInt} {
		refuses(t, c, tick(at), api.ErrRange)
	}
	refuses(t, c, tick(59), api.ErrBack)
	refuses(t, c, tick(0), api.ErrBack)
	do(t, c, tick(60))
	do(t, c, tick(1049))
	told(t, c, 1)
	do(t, c, tick(1050))
	if c.Now() != 1050 {
		t.Errorf("now %d", c.Now())
	}
	told(t, c, 0)
	told(t, c, 1, fallback(1))
	waiting(t, c, 1, 2)
	do(t, c, tick(api.MaxTime))
	told(t, c, 0, fallback(1))
	told(t, c, 1, fallback(2))
	for i := range 2 {
		connected(t, c, i, true)
		waiting(t, c, i)
	}
	refuses(t, c, tick(api.MaxTime+1), api.ErrRange)
}

// P23.1: an Ask waits with the next number, and its bytes are written; what is not right, or a Hello, does not.
func TestAsk(t *testing.T) {
	c := loaded(t, 2, five)
	fallsBack(t, c, 0, wantFlow(1, 1))
	told(t, c, 0)
	refuses(t, c, ask(0, wantFlow(0, 1)), api.ErrForm)
	do(t, c, of(cluster.Dial, 0))
	way(t, c, 0, helloSize, 0)
	for _, bad := range []api.Request{{}, wantFlow(1, 0), wantFlow(0, 1), {Want: 77}, {Want: api.Hello, Text: "cluster"}, {Want: api.WantFlow, Flow: 1, Count: 1, Token: 1}} {
		refuses(t, c, ask(0, bad), api.ErrForm)
	}
	r := wantFlow(1, 1)
	r.Id = -9
	asks(t, c, 0, r, 1)
	way(t, c, 0, helloSize+askSize, 0)
	asks(t, c, 0, api.Request{Want: api.WantParam, Flow: 1, Count: 1, Text: "abc"}, 2)
	way(t, c, 0, helloSize+2*askSize+3, 0)
	asks(t, c, 0, api.Request{Want: api.WantToken, Flow: 1, Count: 1}, 3)
	asks(t, c, 0, api.Request{Want: api.GiveBack, Token: 1}, 4)
	waiting(t, c, 0, 1, 2, 3, 4)
	waiting(t, c, 1)
	way(t, c, 1, 0, 0)
	fallsBack(t, c, 1, wantFlow(1, 1))
}

// P23.1: what each kind of request is answered comes to the client that asked.
func TestEachKind(t *testing.T) {
	c := loaded(t, 2, five, token.Flow{Id: 2, Count: 3, Kind: token.Value}, token.Flow{Id: 3, Count: 4, Kind: token.Lease, Lease: 2 * second})
	do(t, c, tick(2*second))
	connect(t, c, 0, 1)
	value := api.Request{Want: api.WantParam, Flow: 2, Count: 2, Text: "vip"}
	lease := api.Request{Want: api.WantToken, Flow: 3, Count: 1}
	for i, r := range []api.Request{value, lease, {Want: api.GiveBack, Token: 1}, {Want: api.GiveBack, Token: 1}, wantFlow(2, 1), value} {
		asks(t, c, 1, r, i+1)
	}
	move(t, c, 1)
	told(t, c, 0)
	told(t, c, 1, answered(1, api.Granted, 1),
		client.Told{Id: 2, Answer: api.Answer{Id: 2, Status: api.Granted, Left: 3, Wait: 2 * second, Token: 1}},
		answered(3, api.Released, 0), answered(4, api.Unknown, 0), answered(5, api.Unknown, 0), answered(6, api.Refused, 1))
	told(t, c, 1)
	grants(t, c, grant(2*second, 1, 1, value), grant(2*second, 1, 2, lease))
}

// P23.1: with MaxPending requests that wait one more falls back at once.
func TestAskMost(t *testing.T) {
	c := loaded(t, 1, five)
	connect(t, c, 0)
	for i := range api.MaxPending {
		asks(t, c, 0, wantFlow(1, 1), i+1)
	}
	fallsBack(t, c, 0, wantFlow(1, 1))
	move(t, c, 0)
	asks(t, c, 0, wantFlow(1, 1), api.MaxPending+1)
	if l := c.Told(0); len(l) != api.MaxPending || l[4] != answered(5, api.Granted, 0) || l[5] != answered(6, api.Refused, 0) {
		t.Errorf("told of %d", len(l))
	}
}

// P23.1: a request for whose bytes there is no room cuts the connection: it waited, and falls back, as all others do.
func TestAskNoRoom(t *testing.T) {
	c := loaded(t, 2, five)
	connect(t, c, 0, 1)
	asks(t, c, 1, wantFlow(1, 1), 1)
	room := api.MaxText / askSize
	for i := range room {
		if i%api.MaxPending == 0 {
			do(t, c, tick(c.Now()+usual.Timeout))
		}
		asks(t, c, 0, wantFlow(1, 1), i+1)
	}
	way(t, c, 0, room*askSize, 0)
	c.Told(0)
	waits := len(c.Waiting(0))
	asks(t, c, 0, wantFlow(1, 1), room+1)
	connected(t, c, 0, false)
	way(t, c, 0, 0, 0)
	waiting(t, c, 0)
	if l := c.Told(0); len(l) != waits+1 || l[waits] != fallback(room+1) {
		t.Errorf("told of %d, where %d waited", len(l), waits)
	}
	conns(t, c, 2)
	connected(t, c, 1, true)
	mayDial(t, c, 0, c.Now()+usual.Least)
	grants(t, c)
}

// P23.1: just as many bytes as there is room for do not cut it.
func TestAskJustRoom(t *testing.T) {
	c := loaded(t, 1, five)
	connect(t, c, 0)
	for i := range api.MaxText / askSize {
		if i%api.MaxPending == 0 {
			do(t, c, tick(c.Now()+usual.Timeout))
		}
		text := ""
		if i == 0 {
			text = "12345678901234567890123456789012345678901234567890"[:api.MaxText%askSize]
		}
		asks(t, c, 0, api.Request{Want: api.WantParam, Flow: 1, Count: 1, Text: text}, i+1)
	}
	way(t, c, 0, api.MaxText, 0)
	connected(t, c, 0, true)
}

// P23.1: who is connected dials no more; who was refused dials later, and ever later, but by the server's coming back nothing is changed of that.
func TestDial(t *testing.T) {
	c := newCluster(t, 2)
	do(t, c, of(cluster.Dial, 1))
	connected(t, c, 0, false)
	connected(t, c, 1, true)
	way(t, c, 1, helloSize, 0)
	conns(t, c, 1)
	refuses(t, c, of(cluster.Dial, 1), api.ErrUp)
	do(t, c, of(cluster.Stop, 0))
	for _, backoff := range []int{100, 200, 400, 750, 750} {
		refuses(t, c, of(cluster.Dial, 0), api.ErrDown)
		refuses(t, c, of(cluster.Dial, 0), api.ErrNone)
		mayDial(t, c, 0, c.Now()+backoff)
		do(t, c, tick(c.Now()+backoff))
	}
	do(t, c, of(cluster.Start, 0))
	do(t, c, of(cluster.Dial, 0))
	conns(t, c, 2)
	do(t, c, of(cluster.Cut, 0))
	mayDial(t, c, 0, c.Now()+100)
}

// P23.1: bytes come to the server as far as they are moved; what is whole is answered, as if it had come at once.
func TestToServer(t *testing.T) {
	c := loaded(t, 2, five)
	refuses(t, c, toServer(0, 5), api.ErrDown)
	refuses(t, c, toServer(0, -1), api.ErrDown)
	do(t, c, of(cluster.Dial, 0))
	refuses(t, c, toServer(0, -1), api.ErrRange)
	refuses(t, c, toServer(0, math.MinInt), api.ErrRange)
	do(t, c, toServer(0, 0))
	way(t, c, 0, helloSize, 0)
	do(t, c, toServer(0, helloSize-1))
	way(t, c, 0, 1, 0)
	asks(t, c, 0, wantFlow(1, 2), 1)
	asks(t, c, 0, wantFlow(1, 4), 2)
	asks(t, c, 0, wantFlow(1, 3), 3)
	if s := c.Server(); s.Of(1) != "" {
		t.Errorf("of %q ahead of the Hello's last byte", s.Of(1))
	}
	do(t, c, toServer(0, 1))
	if s := c.Server(); s.Of(1) != "cluster" {
		t.Errorf("of %q behind the Hello", s.Of(1))
	}
	way(t, c, 0, 3*askSize, answerSize)
	do(t, c, tick(second+30))
	do(t, c, toServer(0, askSize))
	do(t, c, toServer(0, 7))
	grants(t, c, grant(second+30, 0, 1, wantFlow(1, 2)))
	way(t, c, 0, 2*askSize-7, 2*answerSize)
	do(t, c, tick(second+40))
	do(t, c, toServer(0, math.MaxInt))
	way(t, c, 0, 0, 4*answerSize)
	grants(t, c, grant(second+30, 0, 1, wantFlow(1, 2)), grant(second+40, 0, 3, wantFlow(1, 3)))
	do(t, c, toServer(0, all))
	waiting(t, c, 0, 1, 2, 3)
	do(t, c, toClient(0, all))
	told(t, c, 0, answered(1, api.Granted, 3), answered(2, api.Refused, 3), answered(3, api.Granted, 0))
	if s := c.Server(); s.Last() != second+40 {
		t.Errorf("the server's time: %d", s.Last())
	}
}

// P23.1: answers come to the client as far as they are moved; one that comes too late is thrown away.
func TestToClient(t *testing.T) {
	c := loaded(t, 2, five)
	refuses(t, c, toClient(0, 5), api.ErrDown)
	refuses(t, c, toClient(0, -1), api.ErrDown)
	do(t, c, of(cluster.Dial, 0))
	refuses(t, c, toClient(0, -1), api.ErrRange)
	asks(t, c, 0, wantFlow(1, 1), 1)
	asks(t, c, 0, wantFlow(1, 1), 2)
	do(t, c, toServer(0, all))
	do(t, c, toClient(0, 0))
	way(t, c, 0, 0, 3*answerSize)
	do(t, c, toClient(0, 2*answerSize-1))
	way(t, c, 0, 0, answerSize+1)
	told(t, c, 0)
	waiting(t, c, 0, 1, 2)
	do(t, c, toClient(0, 1))
	told(t, c, 0, answered(1, api.Granted, 4))
	waiting(t, c, 0, 2)
	do(t, c, tick(second+usual.Timeout))
	do(t, c, toClient(0, math.MaxInt))
	way(t, c, 0, 0, 0)
	told(t, c, 0, fallback(2))
	do(t, c, toClient(0, all))
	connected(t, c, 0, true)
	waiting(t, c, 0)
}

// P23.1: an answer for which there is no room cuts the connection: it was granted, and what is asked behind it is thrown away.
func TestAnswerNoRoom(t *testing.T) {
	c := loaded(t, 2, token.Flow{Id: 1, Count: api.MaxCount, Kind: token.Rate})
	connect(t, c, 0, 1)
	room := api.MaxText / answerSize
	for i := range room + 3 {
		if i%api.MaxPending == 0 {
			do(t, c, tick(c.Now()+usual.Timeout))
		}
		asks(t, c, 0, wantFlow(1, 1), i+1)
		if i < room-1 {
			do(t, c, toServer(0, all))
		}
	}
	c.Told(0)
	way(t, c, 0, 4*askSize, (room-1)*answerSize)
	do(t, c, toServer(0, askSize))
	connected(t, c, 0, true)
	way(t, c, 0, 3*askSize, room*answerSize)
	waits := c.Waiting(0)
	do(t, c, toServer(0, all))
	connected(t, c, 0, false)
	way(t, c, 0, 0, 0)
	l := c.Grants()
	if len(l) != room+1 || l[room] != grant(c.Now(), 0, room+1, wantFlow(1, 1)) {
		t.Errorf("%d grants, want %d", len(l), room+1)
	}
	if n, _ := c.Server().Used(c.Now(), 1); n != room+1 {
		t.Errorf("used: %d, want %d", n, room+1)
	}
	var want []client.Told
	for _, id := range waits {
		want = append(want, fallback(id))
	}
	told(t, c, 0, want...)
	conns(t, c, 2)
	mayDial(t, c, 0, c.Now()+usual.Least)
}

// P23.1: what is cut is gone at both ends: the client's requests fall back, and what is under way never comes.
func TestCut(t *testing.T) {
	c := loaded(t, 2, five)
	refuses(t, c, of(cluster.Cut, 0), api.ErrDown)
	connect(t, c, 0, 1)
	for i := range 2 {
		asks(t, c, i, wantFlow(1, 1), 1)
		asks(t, c, i, wantFlow(1, 1), 2)
		do(t, c, toServer(i, askSize+3))
	}
	do(t, c, tick(second+7))
	do(t, c, of(cluster.Cut, 0))
	refuses(t, c, of(cluster.Cut, 0), api.ErrDown)
	refuses(t, c, toServer(0, 1), api.ErrDown)
	refuses(t, c, toClient(0, 1), api.ErrDown)
	connected(t, c, 0, false)
	way(t, c, 0, 0, 0)
	waiting(t, c, 0)
	told(t, c, 0, fallback(1), fallback(2))
	conns(t, c, 2)
	mayDial(t, c, 0, second+7+usual.Least)
	do(t, c, tick(second+7+usual.Least))
	connect(t, c, 0)
	conns(t, c, 2, 3)
	told(t, c, 0)
	asks(t, c, 0, wantFlow(1, 1), 3)
	move(t, c, 0)
	told(t, c, 0, answered(3, api.Granted, 2))
	move(t, c, 1)
	told(t, c, 1, answered(1, api.Granted, 3), answered(2, api.Granted, 1))
	grants(t, c, grant(second, 0, 1, wantFlow(1, 1)), grant(second, 1, 1, wantFlow(1, 1)), grant(second+107, 0, 3, wantFlow(1, 1)), grant(second+107, 1, 2, wantFlow(1, 1)))
}

// P23.1: a Stop cuts all connections, and nobody reaches the server till a Start, with which it begins anew.
func TestStop(t *testing.T) {
	c := loaded(t, 3, five)
	refuses(t, c, of(cluster.Start, 0), api.ErrUp)
	connect(t, c, 2, 0)
	for _, i := range []int{0, 2} {
		asks(t, c, i, wantFlow(1, 2), 1)
		do(t, c, toServer(i, all))
	}
	do(t, c, tick(second+50))
	do(t, c, of(cluster.Stop, 0))
	if c.Up() {
		t.Error("up behind a Stop")
	}
	refuses(t, c, of(cluster.Stop, 0), api.ErrDown)
	conns(t, c)
	for i := range 3 {
		connected(t, c, i, false)
		waiting(t, c, i)
		way(t, c, i, 0, 0)
	}
	told(t, c, 0, fallback(1))
	told(t, c, 1)
	told(t, c, 2, fallback(1))
	mayDial(t, c, 0, second+50+usual.Least)
	fallsBack(t, c, 0, wantFlow(1, 1))
	do(t, c, tick(second+200))
	for i := range 3 {
		refuses(t, c, of(cluster.Dial, i), api.ErrDown)
	}
	do(t, c, tick(second+400))
	do(t, c, of(cluster.Start, 0))
	if !c.Up() {
		t.Error("down behind a Start")
	}
	s := c.Server()
	if s.Last() != second+400 || !s.Quiet(2*second+399, 1) || s.Quiet(2*second+400, 1) || !slices.Equal(s.Flows("cluster"), []token.Flow{five}) {
		t.Errorf("the server has begun otherwise: last %d, flows %v", s.Last(), s.Flows("cluster"))
	}
	if n, _ := s.Used(second+400, 1); n != 0 {
		t.Errorf("used behind a Start: %d", n)
	}
	connect(t, c, 0, 1, 2)
	conns(t, c, 3, 4, 5)
	asks(t, c, 0, wantFlow(1, 2), 2)
	move(t, c, 0)
	told(t, c, 0, answered(2, api.Quiet, 0))
	do(t, c, tick(2*second+400))
	asks(t, c, 0, wantFlow(1, 5), 3)
	move(t, c, 0)
	told(t, c, 0, answered(3, api.Granted, 0))
	grants(t, c, grant(second, 0, 1, wantFlow(1, 2)), grant(second, 2, 1, wantFlow(1, 2)), grant(2*second+400, 0, 3, wantFlow(1, 5)))
}

// P23.1: flows that were never loaded, or a namespace that is loaded only later: the Hello was for nothing.
func TestHelloForNothing(t *testing.T) {
	c := newCluster(t, 1)
	do(t, c, tick(second))
	connect(t, c, 0)
	ok(t, "Load", c.Load(five))
	asks(t, c, 0, wantFlow(1, 1), 1)
	move(t, c, 0)
	told(t, c, 0, answered(1, api.Unknown, 0))
	do(t, c, of(cluster.Cut, 0))
	do(t, c, tick(second+100))
	connect(t, c, 0)
	asks(t, c, 0, wantFlow(1, 1), 2)
	move(t, c, 0)
	told(t, c, 0, answered(2, api.Granted, 4))
}
