package stream_test

import (
	"bytes"
	"math/rand"
	"slices"
	"testing"

	"spillway/api"
	"spillway/client"
	"spillway/frame"
	"spillway/proto"
	"spillway/stream"
	"spillway/token"
)

// P22.4: what an end reads is what the other one wrote, in order, whatever is moved and read when; all of it, if all is moved and read.
func TestInOrder(t *testing.T) {
	for seed := range 50 {
		r := rand.New(rand.NewSource(int64(seed)))
		n := dialled(t, 1)
		var wrote, read [2][]byte
		for range 300 {
			end := r.Intn(2)
			b := []byte(text(r))
			if n.Write(1, end, b...) == api.OK {
				wrote[end] = append(wrote[end], b...)
			}
			n.Move(1, r.Intn(2), r.Intn(400))
			b, over, _ := n.Read(1, end, r.Intn(400))
			read[1-end] = append(read[1-end], b...)
			if over || !bytes.HasPrefix(wrote[1-end], read[1-end]) {
				t.Fatalf("seed %d: what was read is not what was written first", seed)
			}
		}
		for end := range 2 {
			ok(t, "Shut", n.Shut(1, end))
			for over := false; !over; {
				n.Move(1, end, 1+r.Intn(50000))
				var b []byte
				b, over, _ = n.Read(1, 1-end, 1+r.Intn(50000))
				read[end] = append(read[end], b...)
				if all := len(read[end]) == len(wrote[end]); over != all {
					t.Fatalf("seed %d: over %v, but read %d bytes of %d", seed, over, len(read[end]), len(wrote[end]))
				}
			}
			if !bytes.Equal(read[end], wrote[end]) {
				t.Fatalf("seed %d: what was read is not what was written", seed)
			}
		}
	}
}

// P22.5: nothing comes that was not moved, and nothing of one connection, or of its other way, shows in another one.
func TestApart(t *testing.T) {
	n := dialled(t, 3)
	ok(t, "Write", n.Write(2, 0, []byte("abc")...))
	for conn := range 3 {
		for end := range 2 {
			if conn+1 != 2 || end != 0 {
				moves(t, n, conn+1, end, 9, 0)
			}
			reads(t, n, conn+1, end, 9, "", false)
		}
	}
	moves(t, n, 2, 0, 2, 2)
	for conn := range 3 {
		for end := range 2 {
			if conn+1 != 2 || end != 1 {
				reads(t, n, conn+1, end, 9, "", false)
			}
		}
	}
	ok(t, "Break", n.Break(1))
	ok(t, "Shut", n.Shut(3, 0))
	reads(t, n, 2, 1, 9, "ab", false)
	moves(t, n, 2, 0, 9, 1)
	reads(t, n, 2, 1, 9, "c", false)
}

const timeout = 400000

// grant is one that the server made: to a client's request of which number.
type grant struct{ at, client, id int }

// town is a server, and clients of it, over a net.
type town struct {
	t       *testing.T
	r       *rand.Rand
	now     int
	net     *stream.Net
	server  *token.Server
	clients []*client.Client
	conns   []int // of each client; 0: none
	readers map[int]*frame.Reader
	asked   []map[int]api.Request
	askedAt []map[int]int
	grants  []grant
	told    map[grant]int // at is 0 here
}

func newTown(t *testing.T, seed, clients int) *town {
	t.Helper()
	w := &town{t: t, r: rand.New(rand.NewSource(int64(seed))), net: stream.New(), readers: map[int]*frame.Reader{}, told: map[grant]int{}}
	w.server, _ = token.New(0)
	ok(t, "Load", w.server.Load("app", token.Flow{Id: 1, Count: 5, Kind: token.Rate}))
	ok(t, "Listen", w.net.Listen(1))
	for range clients {
		c, err := client.New(client.Setting{Timeout: timeout, Least: 1000, Most: 50000}, "app")
		ok(t, "New", err)
		w.clients = append(w.clients, c)
		w.conns = append(w.conns, 0)
		w.asked, w.askedAt = append(w.asked, map[int]api.Request{}), append(w.askedAt, map[int]int{})
	}
	return w
}

func (w *town) dial(i int) {
	if may, err := w.clients[i].Dial(w.now); !may || err != api.OK {
		return
	}
	conn, err := w.net.Dial(1)
	if err != api.OK {
		ok(w.t, "Refused", w.clients[i].Refused(w.now))
		return
	}
	ok(w.t, "Open", w.server.Open(conn))
	w.conns[i], w.readers[conn] = conn, frame.New()
	ok(w.t, "Up", w.clients[i].Up(w.now))
	w.send(i)
}

func (w *town) send(i int) {
	if b := w.clients[i].Send(); len(b) > 0 {
		ok(w.t, "Write", w.net.Write(w.conns[i], 0, b...))
	}
}

func (w *town) cut(i int) {
	ok(w.t, "Break", w.net.Break(w.conns[i]))
	w.server.Close(w.conns[i])
	ok(w.t, "Lost", w.clients[i].Lost(w.now))
	w.conns[i] = 0
}

// fall lets the server fall, and come back.
func (w *town) fall() {
	for i, conn := range w.conns {
		if conn > 0 {
			w.cut(i)
		}
	}
	ok(w.t, "Restart", w.server.Restart(w.now))
}

func (w *town) ask(i int) {
	q := api.Request{Want: api.WantFlow, Flow: 1, Count: 1 + w.r.Intn(2)}
	n, _, err := w.clients[i].Ask(w.now, q)
	ok(w.t, "Ask", err)
	if n > 0 {
		q.Id = n
		w.asked[i][n], w.askedAt[i][n] = q, w.now
		w.send(i)
	}
}

// toServer lets bytes come to the server, which answers the requests that they are.
func (w *town) toServer(i, most int) {
	conn := w.conns[i]
	w.net.Move(conn, 0, most)
	b, _, err := w.net.Read(conn, 1, most)
	ok(w.t, "Read", err)
	l, err := w.readers[conn].Put(b...)
	ok(w.t, "Put", err)
	for _, payload := range l {
		q, err, _ := proto.ReadRequest(payload)
		ok(w.t, "ReadRequest", err)
		if want := w.asked[i][q.Id]; q.Want != api.Hello && q != want {
			w.t.Fatalf("the server reads %+v, asked was %+v", q, want)
		}
		a, err := w.server.Do(w.now, conn, q)
		ok(w.t, "Do", err)
		if q.Want != api.Hello && a.Status == api.Granted {
			w.grants = append(w.grants, grant{w.now, i, q.Id})
		}
		p, _ := proto.Answer(a)
		p, _ = frame.Frame(p)
		ok(w.t, "Write", w.net.Write(conn, 1, p...))
	}
}

func (w *town) toClient(i, most int) {
	w.net.Move(w.conns[i], 1, most)
	b, _, err := w.net.Read(w.conns[i], 0, most)
	ok(w.t, "Read", err)
	ok(w.t, "Bytes", w.clients[i].Bytes(w.now, b))
}

func (w *town) step() {
	i := w.r.Intn(len(w.clients))
	w.now += w.r.Intn(60000)
	switch n := w.r.Intn(12); {
	case w.conns[i] == 0:
		w.dial(i)
	case w.r.Intn(300) == 0:
		w.fall()
	case n == 0 && w.r.Intn(5) == 0:
		w.cut(i)
	case n < 4:
		w.ask(i)
	case n < 8:
		w.toServer(i, pick(w.r, 10, 60, 1000))
	default:
		w.toClient(i, pick(w.r, 10, 60, 1000))
	}
	for i, c := range w.clients {
		ok(w.t, "Tick", c.Tick(w.now))
		w.hear(i)
	}
}

// hear holds that what is told Granted was granted, once, between the request and its answer, and that nothing waits too long.
func (w *town) hear(i int) {
	for _, k := range w.clients[i].Told() {
		if k.Answer.Status != api.Granted {
			continue
		}
		of := grant{0, i, k.Id}
		w.told[of]++
		made := slices.IndexFunc(w.grants, func(g grant) bool { return g.client == i && g.id == k.Id })
		if made < 0 || w.told[of] > 1 || w.grants[made].at < w.askedAt[i][k.Id] {
			w.t.Fatalf("client %d is told Granted of %d, %d times", i, k.Id, w.told[of])
		}
	}
	for _, number := range w.clients[i].Waiting() {
		if w.now-w.askedAt[i][number] >= timeout {
			w.t.Fatalf("at %d: %d of client %d waits since %d", w.now, number, i, w.askedAt[i][number])
		}
	}
}

// E6, E7, E9: each entry that is let pass by the server has a grant of its own, and grants are at most the flow's Count in any nine tenths of a second, also over a server that falls; nothing waits too long; requests come as they were asked, however their bytes are cut.
func TestTown(t *testing.T) {
	told, grants := 0, 0
	for seed := range 30 {
		w := newTown(t, seed, 1+seed%4)
		for range 800 {
			w.step()
		}
		told += len(w.told)
		grants += len(w.grants)
		for i, g := range w.grants {
			sum := 0
			for _, other := range w.grants[i:] {
				if other.at-g.at < 900000 {
					sum += w.asked[other.client][other.id].Count
				}
			}
			if sum > 5 {
				t.Fatalf("seed %d: %d tokens granted from %d on", seed, sum, g.at)
			}
		}
	}
	if told < 500 || grants <= told {
		t.Errorf("%d grants told, of %d", told, grants)
	}
}
