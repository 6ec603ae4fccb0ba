package token_test

import (
	"fmt"
	"maps"
	"math/rand"
	"slices"
	"testing"

	"spillway/api"
	"spillway/token"
)

const ids = 7 // of the scripts' flows

// pair is a server and its model.
type pair struct {
	*token.Server
	*model
}

func pick[T any](r *rand.Rand, l ...T) T { return l[r.Intn(len(l))] }

// flowOf is one of an Id and a Kind.
func flowOf(r *rand.Rand, id int, k token.Kind) token.Flow {
	f := token.Flow{Id: id, Count: pick(r, 0, 1, 5, 20, 50), Kind: k}
	if k == token.Lease {
		f.Lease = pick(r, second, second+1, 2*second, 3*second+50000)
	}
	return f
}

// anyLoad is flows, most of them of the Ids and Kinds that are this namespace's as a rule.
func anyLoad(r *rand.Rand) (string, []token.Flow) {
	i := r.Intn(3)
	var l []token.Flow
	for id := 1 + i; id <= ids; id += 3 {
		switch r.Intn(12) {
		case 0:
			l = append(l, flowOf(r, 1+r.Intn(ids), pick(r, token.Rate, token.Value, token.Lease)))
		case 1:
			l = append(l, flowOf(r, id, pick(r, token.Rate, token.Value, token.Lease)))
		case 2:
		default:
			l = append(l, flowOf(r, id, token.Kind(1+id/2%3)))
		}
	}
	if r.Intn(20) == 0 {
		l = append(l, token.Flow{Id: 1})
	}
	return string(rune('a' + i)), l
}

// anyRequest is one of a connection of a namespace; most of them ask for what that has.
func anyRequest(r *rand.Rand, p pair, name string, texts []string) api.Request {
	q := api.Request{Id: r.Intn(100), Want: pick(r, api.WantFlow, api.WantParam, api.WantToken), Flow: 1 + r.Intn(ids), Count: pick(r, 1, 1, 2, 5, 30)}
	if l := p.Flows(name); len(l) > 0 && r.Intn(12) > 0 {
		f := pick(r, l...)
		q.Flow, q.Want = f.Id, api.Want(f.Kind)
	}
	switch r.Intn(16) {
	case 0:
		return api.Request{Id: q.Id, Want: api.Hello, Text: pick(r, "a", "b", "c", "d")}
	case 1, 2:
		q = api.Request{Id: q.Id, Want: api.GiveBack, Token: 1 + r.Intn(60)}
		if l := p.out(p.Last()); len(l) > 0 {
			q.Token = pick(r, l...).Number
		}
		return q
	case 3:
		q.Want = pick(r, api.WantFlow, api.WantParam, api.WantToken, 0, 9)
	case 4:
		q.Count = pick(r, 0, -1, api.MaxCount)
	}
	if name == "" && r.Intn(2) == 0 {
		return api.Request{Id: q.Id, Want: api.Hello, Text: pick(r, "a", "b", "c")}
	}
	if q.Want == api.WantParam {
		q.Text = pick(r, texts...)
	}
	return q
}

// later is a time that is not ahead of one, often where a bucket or a quiet time ends.
func later(r *rand.Rand, p pair) int {
	at := p.Last()
	switch r.Intn(12) {
	case 0:
		return at/(second/10)*(second/10) + second/10 - r.Intn(2)
	case 1:
		return max(at, p.begun+pick(r, second, 2*second)-r.Intn(2))
	case 2:
		return at + r.Intn(second)
	case 3:
		if l := p.out(at); len(l) > 0 {
			return max(at, l[0].Until-r.Intn(2))
		}
	}
	return at + pick(r, 0, 0, r.Intn(5000), r.Intn(60000))
}

// holds holds what a server tells against its model.
func (p pair) holds(at int, texts []string) string {
	if p.Last() != p.last || !slices.Equal(p.Namespaces(), p.names) || !slices.Equal(p.Conns(), slices.Sorted(maps.Keys(p.conns))) {
		return fmt.Sprint("Last, Namespaces, Conns: ", p.Last(), p.Namespaces(), p.Conns())
	}
	for _, name := range append(p.Namespaces(), "z") {
		if !slices.Equal(p.Flows(name), p.flows[name]) {
			return fmt.Sprint("Flows of ", name, p.Flows(name), p.flows[name])
		}
	}
	for conn := range 5 {
		if p.Of(conn) != p.conns[conn] {
			return fmt.Sprint("Of ", conn, p.Of(conn), p.conns[conn])
		}
	}
	if l, err := p.Out(at); !slices.Equal(l, p.out(at)) || err != api.OK {
		return fmt.Sprint("Out ", at, l, p.out(at), err)
	}
	for id := range ids + 2 {
		f, _, is := p.of(id)
		want, wantErr := 0, api.ErrNone
		var text []string
		if f.Kind == token.Value {
			text = texts[:1]
		}
		if is {
			want, wantErr = p.model.used(at, f, texts[0]), api.OK
		}
		if n, err := p.Used(at, id, text...); n != want || err != wantErr || p.Quiet(at, id) != p.quiet(at, id) {
			return fmt.Sprint("Used ", at, id, n, err, want, wantErr, p.Quiet(at, id))
		}
	}
	return ""
}

// step does one thing with both; what it tells is what was wrong.
func (p pair) step(r *rand.Rand, texts []string, counted map[string]int) string {
	at, conn := later(r, p), 1+r.Intn(4)
	var got, want api.Errno
	switch n := r.Intn(100); {
	case n < 2:
		got = p.Restart(at)
		p.restart(at)
	case n < 5:
		name, l := anyLoad(r)
		got, want = p.Load(name, l...), p.load(name, l)
		counted[fmt.Sprint("Load ", want)]++
	case n < 10:
		got = p.Open(conn)
		if _, is := p.conns[conn]; is {
			want = api.ErrTwice
		} else {
			p.conns[conn] = ""
		}
	case n < 11:
		got = p.Close(conn)
		if _, is := p.conns[conn]; !is {
			want = api.ErrNone
		}
		delete(p.conns, conn)
	default:
		q := anyRequest(r, p, p.conns[conn], texts)
		a, err := p.Server.Do(at, conn, q)
		if _, is := p.conns[conn]; !is {
			got, want = err, api.ErrNone
			break
		}
		b := p.do(at, conn, q)
		if a != b || err != api.OK {
			return fmt.Sprintf("Do(%d, %d, %+v): %+v, %v, want %+v", at, conn, q, a, err, b)
		}
		counted[fmt.Sprint(q.Want, " ", b.Status)]++
	}
	if got != want {
		return fmt.Sprint("the error ", got, ", want ", want)
	}
	return p.holds(later(r, p), slices.Concat(texts[r.Intn(len(texts)):], texts))
}

// P20.1 to P20.3, P4: servers, and forks of them, do with scripts of any kind what the document tells of them.
func TestModel(t *testing.T) {
	cache := map[int]map[string]place{}
	placeOf := func(id int, text string) place {
		if cache[id] == nil {
			cache[id] = map[string]place{}
		}
		if _, is := cache[id][text]; !is {
			cache[id][text] = placesOf(t, id)(text)
		}
		return cache[id][text]
	}
	counted := map[string]int{}
	for seed := range 120 {
		r := rand.New(rand.NewSource(int64(seed)))
		texts := names(pick(r, 2, 20, 300))
		s, m := newServer(t, seed), newModel(seed, placeOf)
		pairs := []pair{{s, m}}
		for range 3 {
			name, l := anyLoad(r)
			s.Load(name, l...)
			m.load(name, l)
		}
		for i := range 600 {
			n := r.Intn(len(pairs))
			if wrong := pairs[n].step(r, texts, counted); wrong != "" {
				t.Fatalf("seed %d, step %d: %s", seed, i, wrong)
			}
			if r.Intn(150) == 0 {
				pairs = append(pairs, pair{pairs[n].Fork(), pairs[n].fork()})
			}
		}
	}
	for _, what := range []string{
		"1 1", "1 2", "1 4", "1 5", "1 7", "2 1", "2 2", "2 4", "2 5", "2 7", "3 1", "3 2", "3 4", "3 5", "3 7", "4 4", "4 8", "5 1", "5 4", "0 5",
		"Load 0", "Load 6", "Load 11",
	} {
		if counted[what] < 20 {
			t.Errorf("%s: %d times", what, counted[what])
		}
	}
	t.Log(counted)
}
