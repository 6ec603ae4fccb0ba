package client_test

import (
	"bytes"
	"fmt"
	"math/rand"
	"slices"
	"testing"

	"spillway/api"
	"spillway/client"
	"spillway/proto"
)

// pair is a client and its model.
type pair struct {
	*client.Client
	*model
}

func pick[T any](r *rand.Rand, l ...T) T { return l[r.Intn(len(l))] }

func anyRequest(r *rand.Rand) api.Request {
	return pick(r, wantFlow(1+r.Intn(3), 1), api.Request{Want: api.WantParam, Flow: 1, Count: 1, Text: "x"}, api.Request{Want: api.GiveBack, Token: 7}, wantFlow(0, 1), api.Request{Want: api.Hello, Text: "app"})
}

// anyItem is mostly an answer, to one that waits, or waited, or to none.
func anyItem(t *testing.T, r *rand.Rand, m *model) item {
	switch r.Intn(25) {
	case 0:
		b := framed(make([]byte, 1+r.Intn(50)))
		return item{bytes: b, isBad: true, ends: len(b)}
	case 1:
		return item{bytes: pick(r, []byte{0, 0, 0, 0}, []byte{0, 0, 16, 1}, []byte{9, 0, 0, 0}), isBad: true, ends: 4}
	}
	a := api.Answer{Id: r.Intn(len(m.taken) + 3), Status: api.Status(1 + r.Intn(8)), Left: r.Intn(5), Wait: r.Intn(5), Token: r.Intn(5)}
	if l := m.waiting(); len(l) > 0 && r.Intn(3) > 0 {
		a.Id = pick(r, l...)
	}
	b := answer(t, a)
	return item{bytes: b, answer: a, ends: len(b)}
}

// later is a time that is not ahead of one, often just where a request falls back, or it may dial.
func later(r *rand.Rand, m *model) int {
	if l := m.waiting(); len(l) > 0 && r.Intn(12) == 0 {
		return max(m.last, m.taken[l[0]-1].at+m.s.Timeout-r.Intn(2))
	}
	if r.Intn(6) == 0 {
		return max(m.last, m.from-r.Intn(2))
	}
	return m.last + pick(r, 0, 0, 0, 1, r.Intn(m.s.Timeout/4+2))
}

// bytes hands over so many bytes of what the server sends.
func (p pair) bytes(at int, r *rand.Rand) (got, want api.Errno) {
	var all []byte
	for _, one := range p.coming {
		all = append(all, one.bytes...)
	}
	all = all[p.cameParts:]
	n := pick(r, len(all), r.Intn(len(all)+1), min(len(all), 4))
	got = p.Client.Bytes(at, all[:n])
	if want = p.begin(at); want != api.OK {
		return got, want
	}
	if !p.up {
		return got, api.ErrDown
	}
	return got, p.come(n)
}

// ask asks both: what was wrong.
func (p pair) ask(at int, q api.Request, counted map[string]int) string {
	n, falls, err := p.Client.Ask(at, q)
	wantN, wantFalls, want := 0, false, p.begin(at)
	q.Id = 0
	switch {
	case want != api.OK:
	case !proto.Right(q) || q.Want == api.Hello:
		want = api.ErrForm
	case !p.up || len(p.model.waiting()) == api.MaxPending:
		wantFalls = true
	default:
		p.taken = append(p.taken, record{at: at})
		wantN = len(p.taken)
		q.Id = wantN
		p.out = append(p.out, q)
	}
	counted[fmt.Sprint("Ask ", wantFalls, want, p.up)]++
	if n != wantN || falls != wantFalls || err != want {
		return fmt.Sprintf("Ask(%d, %+v): %d, %v, %v, want %d, %v, %v", at, q, n, falls, err, wantN, wantFalls, want)
	}
	return ""
}

// turn is Up, Refused, or Lost of both.
func (p pair) turn(at int, r *rand.Rand) (name string, got, want api.Errno) {
	name = pick(r, "Up", "Up", "Refused", "Lost")
	want = p.begin(at)
	switch name {
	case "Up":
		got = p.Up(at)
		switch {
		case want != api.OK:
		case p.up:
			want = api.ErrUp
		default:
			p.up, p.fails = true, 0
			p.out = append(p.out, api.Request{Want: api.Hello, Text: "app"})
		}
	case "Refused":
		got = p.Refused(at)
		switch {
		case want != api.OK:
		case p.up:
			want = api.ErrUp
		default:
			p.fail()
		}
	case "Lost":
		got = p.Lost(at)
		switch {
		case want != api.OK:
		case !p.up:
			want = api.ErrDown
		default:
			p.down()
		}
	}
	return name, got, want
}

// step does one thing with both; what it tells is what was wrong.
func (p pair) step(t *testing.T, r *rand.Rand, counted map[string]int) string {
	at := later(r, p.model)
	if r.Intn(40) == 0 {
		at = pick(r, -1, p.last-1, api.MaxTime+1)
	}
	name := "Tick"
	var got, want api.Errno
	switch n := r.Intn(100); {
	case n < 45:
		for range pick(r, 0, api.MaxPending*(1-min(1, r.Intn(200)))) {
			if wrong := p.ask(at, wantFlow(1, 1), counted); wrong != "" {
				return wrong
			}
		}
		return p.ask(at, anyRequest(r), counted)
	case n < 60:
		for p.up && r.Intn(3) > 0 {
			p.coming = append(p.coming, anyItem(t, r, p.model))
		}
		name = "Bytes"
		got, want = p.bytes(at, r)
	case n < 70:
		if p.up && r.Intn(4) > 0 {
			return ""
		}
		name, got, want = p.turn(at, r)
	case n < 80:
		may, err := p.Dial(at)
		want = p.begin(at)
		if wantMay := want == api.OK && !p.up && at >= p.from; may != wantMay || err != want {
			return fmt.Sprint("Dial ", at, may, err, want)
		}
		counted[fmt.Sprint("Dial ", may, p.up)]++
		return ""
	case n < 85:
		got, want = p.Tick(at), p.begin(at)
	case n < 93:
		b, err := proto.All(p.out...)
		ok(t, "All", err)
		p.out = nil
		if s := p.Send(); !bytes.Equal(s, b) {
			return fmt.Sprint("Send ", s, b)
		}
		return ""
	default:
		l := p.Told()
		if !slices.Equal(l, p.told) {
			return fmt.Sprint("Told ", l, p.told)
		}
		p.told = nil
		return ""
	}
	counted[fmt.Sprint(name, " ", want)]++
	if got != want {
		return fmt.Sprint(name, ": the error ", got, ", want ", want)
	}
	return ""
}

// P21.1 to P21.5, P4: clients, and forks of them, do with scripts of any kind what the document tells of them.
func TestModel(t *testing.T) {
	counted := map[string]int{}
	for seed := range 300 {
		r := rand.New(rand.NewSource(int64(seed)))
		s := client.Setting{Timeout: pick(r, 1, 20, 1000, 100000), Least: pick(r, 1, 30, 500)}
		s.Most = s.Least * pick(r, 1, 3, 50)
		pairs := []pair{{newClient(t, s), &model{s: s}}}
		for i := range 1000 {
			p := pairs[r.Intn(len(pairs))]
			if wrong := p.step(t, r, counted); wrong != "" {
				t.Fatalf("seed %d, step %d: %s", seed, i, wrong)
			}
			if l := p.Waiting(); !slices.Equal(l, p.waiting()) || p.Connected() != p.up {
				t.Fatalf("seed %d, step %d: Waiting %v, want %v; connected %v", seed, i, l, p.waiting(), p.Connected())
			}
			if r.Intn(300) == 0 {
				pairs = append(pairs, pair{p.Fork(), p.fork()})
			}
		}
	}
	for _, what := range []string{
		"Ask false 0 true", "Ask true 0 true", "Ask true 0 false", "Ask false 6 true", "Ask false 2 true", "Ask false 7 true", "Dial true false", "Dial false false", "Dial false true",
		"Bytes 0", "Bytes 50", "Bytes 51", "Bytes 2", "Bytes 7", "Up 0", "Up 52", "Refused 0", "Refused 52", "Lost 0", "Lost 51", "Tick 0", "Tick 7",
	} {
		if counted[what] < 20 {
			t.Errorf("%s: %d times", what, counted[what])
		}
	}
	t.Log(counted)
}
