package token_test

import (
	"math"
	"slices"
	"strconv"
	"strings"
	"testing"

	"spillway/api"
	"spillway/token"
)

const (
	second  = api.Second
	maxConn = 1<<31 - 1
)

// Flows of each Kind that are right.
func rate(id, count int) token.Flow { return token.Flow{Id: id, Count: count, Kind: token.Rate} }

func value(id, count int) token.Flow { return token.Flow{Id: id, Count: count, Kind: token.Value} }

func lease(id, count, lasts int) token.Flow {
	return token.Flow{Id: id, Count: count, Kind: token.Lease, Lease: lasts}
}

// Requests of each Want.
func wantFlow(flow, count int) api.Request {
	return api.Request{Want: api.WantFlow, Flow: flow, Count: count}
}

func wantParam(flow, count int, text string) api.Request {
	return api.Request{Want: api.WantParam, Flow: flow, Count: count, Text: text}
}

func wantToken(flow, count int) api.Request {
	return api.Request{Want: api.WantToken, Flow: flow, Count: count}
}

func giveBack(number int) api.Request { return api.Request{Want: api.GiveBack, Token: number} }

func hello(name string) api.Request { return api.Request{Want: api.Hello, Text: name} }

func newServer(t *testing.T, at int) *token.Server {
	t.Helper()
	s, err := token.New(at)
	if err != api.OK {
		t.Fatal(err)
	}
	return s
}

func load(t *testing.T, s *token.Server, name string, l ...token.Flow) {
	t.Helper()
	if err := s.Load(name, l...); err != api.OK {
		t.Fatalf("Load of %s: %v", name, err)
	}
}

// open opens a connection and says Hello, at the time that was noted last.
func open(t *testing.T, s *token.Server, conn int, name string) {
	t.Helper()
	if err := s.Open(conn); err != api.OK {
		t.Fatalf("Open(%d): %v", conn, err)
	}
	answers(t, s, s.Last(), conn, hello(name), api.Answer{Status: api.Granted})
}

// serving has begun at 0, and has flows in the namespace a, of which the connection 1 is.
func serving(t *testing.T, l ...token.Flow) *token.Server {
	t.Helper()
	s := newServer(t, 0)
	load(t, s, "a", l...)
	open(t, s, 1, "a")
	return s
}

func do(t *testing.T, s *token.Server, at, conn int, r api.Request) api.Answer {
	t.Helper()
	a, err := s.Do(at, conn, r)
	if err != api.OK {
		t.Fatalf("Do(%d, %d, %+v): %v", at, conn, r, err)
	}
	return a
}

// answers holds an answer against what it should be, whatever the request's number is.
func answers(t *testing.T, s *token.Server, at, conn int, r api.Request, want api.Answer) {
	t.Helper()
	for _, id := range []int{0, 1<<31 - 1} {
		r.Id, want.Id = id, id
		to := s
		if id == 0 {
			to = s.Fork() // which answers the same, and leaves it to the server to note it
		}
		if got := do(t, to, at, conn, r); got != want {
			t.Errorf("Do(%d, %d, %+v): %+v, want %+v", at, conn, r, got, want)
		}
	}
}

// says holds the status of an answer alone.
func says(t *testing.T, s *token.Server, at, conn int, r api.Request, want api.Status) api.Answer {
	t.Helper()
	a := do(t, s, at, conn, r)
	if a.Status != want {
		t.Errorf("Do(%d, %d, %+v): %+v, want the Status %d", at, conn, r, a, want)
	}
	return a
}

// used holds Used of an Id.
func used(t *testing.T, s *token.Server, at, id, want int, text ...string) {
	t.Helper()
	if n, err := s.Used(at, id, text...); n != want || err != api.OK {
		t.Errorf("Used(%d, %d, %q): %d, %v, want %d", at, id, text, n, err, want)
	}
}

// out holds which tokens are out.
func out(t *testing.T, s *token.Server, at int, want ...token.Token) {
	t.Helper()
	if l, err := s.Out(at); !slices.Equal(l, want) || err != api.OK {
		t.Errorf("Out(%d): %+v, %v, want %+v", at, l, err, want)
	}
}

// Chapter 20, example 1: quiet for a second, then granted as many as the Count.
func TestExample(t *testing.T) {
	s := newServer(t, 0)
	load(t, s, "a", rate(1, 5))
	if err := s.Open(1); err != api.OK {
		t.Fatal(err)
	}
	answers(t, s, 0, 1, hello("a"), api.Answer{Status: api.Granted})
	answers(t, s, 999999, 1, wantFlow(1, 1), api.Answer{Status: api.Quiet})
	answers(t, s, 1000000, 1, wantFlow(1, 1), api.Answer{Status: api.Granted, Left: 4})
	answers(t, s, 1000000, 1, wantFlow(1, 5), api.Answer{Status: api.Refused, Left: 4})
}

// P20.1: a server begins at a time.
func TestNew(t *testing.T) {
	for _, at := range []int{0, 1, 5 * second, api.MaxTime} {
		s, err := token.New(at)
		if err != api.OK || s.Last() != at || len(s.Conns()) != 0 || len(s.Namespaces()) != 0 {
			t.Errorf("New(%d): %v, Last %d, %v, %v", at, err, s.Last(), s.Conns(), s.Namespaces())
		}
		out(t, s, at)
	}
	for _, at := range []int{-1, math.MinInt, api.MaxTime + 1, math.MaxInt} {
		if s, err := token.New(at); s != nil || err != api.ErrRange {
			t.Errorf("New(%d): %v, %v", at, s, err)
		}
	}
}

// P20.1: Right holds each field within its limits; a Lease is of its Kind alone, in seconds.
func TestRight(t *testing.T) {
	for _, x := range []struct {
		f         token.Flow
		lasts, to int
	}{{rate(1, 1), 0, 0}, {value(1, 1), 0, 0}, {lease(1, 1, second), second, 3600 * second}} {
		fields := []struct {
			of     func(f *token.Flow) *int
			lo, hi int
		}{
			{func(f *token.Flow) *int { return &f.Id }, 1, api.MaxCount},
			{func(f *token.Flow) *int { return &f.Count }, 0, api.MaxCount},
			{func(f *token.Flow) *int { return &f.Lease }, x.lasts, x.to},
		}
		for _, field := range fields {
			for _, n := range []int{field.lo, field.lo + (field.hi-field.lo)/2, field.hi, field.lo - 1, field.hi + 1, -1, 1, field.hi + 1<<32, math.MinInt, math.MaxInt} {
				f := x.f
				*field.of(&f) = n
				if got := token.Right(f); got != (n >= field.lo && n <= field.hi) {
					t.Errorf("%+v: %v", f, got)
				}
			}
		}
	}
	for _, f := range []token.Flow{rate(1, 1), lease(1, 1, second), {}} {
		for _, k := range []token.Kind{0, 4, 128, 255} {
			f.Kind = k
			if token.Right(f) {
				t.Errorf("%+v is right", f)
			}
		}
	}
	if token.Rate != 1 || token.Value != 2 || token.Lease != 3 {
		t.Error("the kinds")
	}
}

// standing is what a server tells of its flows.
func standing(s *token.Server) map[string][]token.Flow {
	m := map[string][]token.Flow{}
	for _, name := range s.Namespaces() {
		m[name] = s.Flows(name)
	}
	return m
}

func sameFlows(a, b map[string][]token.Flow) bool {
	if len(a) != len(b) {
		return false
	}
	for name, l := range a {
		if other, is := b[name]; !is || !slices.Equal(l, other) {
			return false
		}
	}
	return true
}

// P20.1: Load has ErrName, ErrForm, ErrTwice, in this order, and changes nothing then.
func TestLoadRefuses(t *testing.T) {
	wrong := token.Flow{Id: 1, Count: -1, Kind: token.Rate}
	tests := []struct {
		name string
		l    []token.Flow
		err  api.Errno
	}{
		{"", nil, api.ErrName},
		{"a b", nil, api.ErrName},
		{strings.Repeat("n", api.MaxName+1), nil, api.ErrName},
		{"é", []token.Flow{rate(50, 1)}, api.ErrName},
		{"", []token.Flow{wrong, rate(3, 1)}, api.ErrName},
		{"a", []token.Flow{wrong}, api.ErrForm},
		{"a", []token.Flow{rate(50, 1), {}}, api.ErrForm},
		{"a", []token.Flow{{Id: 50, Kind: token.Lease}}, api.ErrForm},
		{"a", []token.Flow{rate(3, 1), rate(50, 1), rate(50, 1), {Id: 51, Kind: 4}}, api.ErrForm},
		{"a", []token.Flow{rate(50, 1), rate(50, 1)}, api.ErrTwice},
		{"a", []token.Flow{rate(50, 1), rate(51, 1), value(50, 2)}, api.ErrTwice},
		{"a", []token.Flow{rate(50, 1), rate(3, 1)}, api.ErrTwice},
		{"new", []token.Flow{rate(1, 1)}, api.ErrTwice},
		{"b", []token.Flow{rate(3, 1), rate(4, 1), rate(1, 1)}, api.ErrTwice},
	}
	s := newServer(t, 5)
	load(t, s, "a", rate(1, 10), value(2, 20))
	load(t, s, "b", rate(3, 30))
	was := standing(s)
	for _, x := range tests {
		if err := s.Load(x.name, x.l...); err != x.err {
			t.Errorf("Load of %q, %+v: %v, want %v", x.name, x.l, err, x.err)
		}
		if !sameFlows(standing(s), was) || !slices.Equal(s.Namespaces(), []string{"a", "b"}) || s.Last() != 5 {
			t.Fatalf("what was refused left %+v", standing(s))
		}
	}
}

// many are so many flows, of the Ids from one on.
func many(from, n int) []token.Flow {
	var l []token.Flow
	for id := from; id < from+n; id++ {
		l = append(l, rate(id, id))
	}
	return l
}

// P20.1: at most MaxRules flows in all; what a namespace had counts no more when it has others.
func TestLoadAtMostRules(t *testing.T) {
	s := newServer(t, 0)
	load(t, s, "a", many(1, 200)...)
	load(t, s, "b", many(201, 56)...)
	for name, l := range map[string][]token.Flow{"a": many(1, 201)[:200], "b": many(201, 56), "c": nil} {
		if err := s.Fork().Load(name, l...); err != api.OK {
			t.Errorf("as many as may be: %s: %v", name, err)
		}
	}
	tests := []struct {
		name string
		l    []token.Flow
		want api.Errno
	}{
		{"a", append(many(1, 200), rate(300, 1)), api.ErrFull},
		{"b", many(201, 57), api.ErrFull},
		{"c", many(300, 1), api.ErrFull},
		{"c", append(many(300, 1), rate(1, 1)), api.ErrTwice},
		{"c", append(many(300, 1), rate(300, 1)), api.ErrTwice},
		{"b", many(300, 257), api.ErrFull},
		{"a", many(300, 201), api.ErrFull},
		{"a", many(300, 200), api.OK},
		{"b", nil, api.OK},
		{"c", many(1, 56), api.OK},
		{"c", many(1, 57), api.ErrFull},
	}
	for i, x := range tests {
		was := standing(s)
		if err := s.Load(x.name, x.l...); err != x.want {
			t.Fatalf("%d: Load of %s: %v, want %v", i, x.name, err, x.want)
		}
		if x.want != api.OK && !sameFlows(was, standing(s)) {
			t.Fatalf("%d: what was refused is there", i)
		}
	}
	alone := newServer(t, 0)
	if err := alone.Load("a", many(1, api.MaxRules+1)...); err != api.ErrFull {
		t.Errorf("a rule too many: %v", err)
	}
	load(t, alone, "a", many(1, api.MaxRules)...)
}

// P20.1: at most MaxClients namespaces, which stay, whatever they have.
func TestLoadAtMostNamespaces(t *testing.T) {
	s := newServer(t, 0)
	var names []string
	for i := range api.MaxClients {
		names = append(names, string(rune('h'-i)))
		load(t, s, names[i], many(1+i, i%2)...)
	}
	if err := s.Load("z"); err != api.ErrFull {
		t.Errorf("a namespace too many: %v", err)
	}
	if err := s.Load("z", rate(2, 1)); err != api.ErrTwice {
		t.Errorf("a namespace too many, with another one's Id: %v", err)
	}
	for _, name := range names {
		load(t, s, name)
	}
	if err := s.Load("z", rate(2, 1)); err != api.ErrFull {
		t.Errorf("a namespace too many: %v", err)
	}
	if !slices.Equal(s.Namespaces(), names) {
		t.Errorf("Namespaces: %q, want %q", s.Namespaces(), names)
	}
}

// P20.1: at most MaxNodes Ids, with those that no namespace has any more; they were had also ahead of a Restart.
func TestLoadAtMostIds(t *testing.T) {
	s := newServer(t, 0)
	load(t, s, "a", many(1, 256)...)
	load(t, s, "a", many(257, 255)...)
	load(t, s, "b", rate(1000, 1))
	full := func(s *token.Server, what string) {
		t.Helper()
		for _, name := range []string{"a", "b", "c"} {
			if err := s.Load(name, rate(1001, 1)); err != api.ErrFull {
				t.Errorf("%s: an Id too many of %s: %v", what, name, err)
			}
		}
	}
	full(s, "loaded")
	if err := s.Load("b", rate(257, 1), rate(1001, 1)); err != api.ErrTwice {
		t.Errorf("an Id too many, and another namespace's: %v", err)
	}
	load(t, s, "a", many(1, 255)...)
	full(s, "loaded with those that it had")
	full(s.Fork(), "forked")
	if err := s.Restart(0); err != api.OK {
		t.Fatal(err)
	}
	full(s, "begun anew")
	load(t, s, "a", value(300, 1), lease(1, 1, second))
	full(s, "loaded with other kinds")
	load(t, s, "c", value(511, 1))
}

// P20.1, P20.3: a namespace has the flows that it was loaded with last, in order; its place is where it was loaded first.
func TestFlows(t *testing.T) {
	s := newServer(t, 0)
	load(t, s, "b", rate(9, 1), value(3, 0), lease(5, api.MaxCount, 3600*second))
	load(t, s, "a")
	load(t, s, "c", rate(1, 1))
	load(t, s, "a", rate(7, 2))
	if got := s.Namespaces(); !slices.Equal(got, []string{"b", "a", "c"}) {
		t.Errorf("Namespaces: %q", got)
	}
	load(t, s, "b", rate(4, 1), rate(9, 8))
	load(t, s, "c", value(3, 4))
	want := map[string][]token.Flow{"a": {rate(7, 2)}, "b": {rate(4, 1), rate(9, 8)}, "c": {value(3, 4)}}
	if got := standing(s); !sameFlows(got, want) || !slices.Equal(s.Namespaces(), []string{"b", "a", "c"}) {
		t.Errorf("%+v, in the order %q", got, s.Namespaces())
	}
	for _, name := range []string{"", "d", "A", "a b"} {
		if len(s.Flows(name)) != 0 {
			t.Errorf("Flows of %q: %+v", name, s.Flows(name))
		}
	}
}

// P20.2, P20.3: connections open and close; Conns rise, and are of no namespace at first.
func TestConnections(t *testing.T) {
	s := newServer(t, 0)
	load(t, s, "a", rate(1, 1))
	for _, conn := range []int{0, -1, math.MinInt, maxConn + 1, math.MaxInt} {
		if err := s.Open(conn); err != api.ErrRange {
			t.Errorf("Open(%d): %v", conn, err)
		}
		if err := s.Close(conn); err != api.ErrNone {
			t.Errorf("Close(%d): %v", conn, err)
		}
		if s.Of(conn) != "" {
			t.Errorf("Of(%d): %q", conn, s.Of(conn))
		}
	}
	for _, conn := range []int{7, maxConn, 1} {
		if err := s.Close(conn); err != api.ErrNone {
			t.Errorf("Close(%d): %v", conn, err)
		}
		if err := s.Open(conn); err != api.OK || s.Of(conn) != "" {
			t.Errorf("Open(%d): %v, of %q", conn, err, s.Of(conn))
		}
		if err := s.Open(conn); err != api.ErrTwice {
			t.Errorf("Open(%d) again: %v", conn, err)
		}
	}
	if got := s.Conns(); !slices.Equal(got, []int{1, 7, maxConn}) {
		t.Errorf("Conns: %v", got)
	}
	answers(t, s, 0, 7, hello("a"), api.Answer{Status: api.Granted})
	if err := s.Close(7); err != api.OK || s.Of(7) != "" || !slices.Equal(s.Conns(), []int{1, maxConn}) {
		t.Errorf("Close: %v, %q, %v", err, s.Of(7), s.Conns())
	}
	if err := s.Close(7); err != api.ErrNone {
		t.Errorf("Close again: %v", err)
	}
	if err := s.Open(7); err != api.OK || s.Of(7) != "" {
		t.Errorf("opened again: %v, it is of %q", err, s.Of(7))
	}
}

// P20.2: at most MaxConns connections; ErrTwice is named ahead.
func TestAtMostConns(t *testing.T) {
	s := newServer(t, 0)
	for conn := range api.MaxConns {
		if err := s.Open(conn + 1); err != api.OK {
			t.Fatal(err)
		}
	}
	for conn, want := range map[int]api.Errno{1: api.ErrTwice, api.MaxConns: api.ErrTwice, api.MaxConns + 1: api.ErrFull, maxConn: api.ErrFull, 0: api.ErrRange, maxConn + 1: api.ErrRange} {
		if err := s.Open(conn); err != want {
			t.Errorf("Open(%d): %v, want %v", conn, err, want)
		}
	}
	if len(s.Conns()) != api.MaxConns {
		t.Errorf("%d connections", len(s.Conns()))
	}
	if err := s.Close(5); err != api.OK {
		t.Fatal(err)
	}
	if err := s.Open(maxConn); err != api.OK {
		t.Errorf("where one is closed: %v", err)
	}
}

// P20.2: Do and Restart have ErrRange, ErrBack, ErrNone, in this order, and note nothing then.
func TestTimes(t *testing.T) {
	s := newServer(t, 100)
	load(t, s, "a", rate(1, 5))
	open(t, s, 1, "a")
	do(t, s, 2*second, 1, wantFlow(1, 2))
	tests := []struct {
		at, conn int
		want     api.Errno
	}{
		{-1, 1, api.ErrRange}, {math.MinInt, 9, api.ErrRange}, {api.MaxTime + 1, 1, api.ErrRange}, {math.MaxInt, 9, api.ErrRange},
		{0, 1, api.ErrBack}, {2*second - 1, 1, api.ErrBack}, {2*second - 1, 9, api.ErrBack},
		{2 * second, 9, api.ErrNone}, {3 * second, 0, api.ErrNone}, {api.MaxTime, -1, api.ErrNone},
	}
	for _, x := range tests {
		for _, r := range []api.Request{wantFlow(1, 1), hello("b"), {}} {
			if a, err := s.Do(x.at, x.conn, r); a != (api.Answer{}) || err != x.want {
				t.Errorf("Do(%d, %d): %+v, %v, want %v", x.at, x.conn, a, err, x.want)
			}
		}
		if x.want != api.ErrNone {
			if err := s.Restart(x.at); err != x.want {
				t.Errorf("Restart(%d): %v, want %v", x.at, err, x.want)
			}
			if n, err := s.Used(x.at, 1); n != 0 || err != x.want {
				t.Errorf("Used(%d): %d, %v, want %v", x.at, n, err, x.want)
			}
			if l, err := s.Out(x.at); len(l) != 0 || err != x.want {
				t.Errorf("Out(%d): %v, %v, want %v", x.at, l, err, x.want)
			}
		}
		if s.Last() != 2*second || s.Of(1) != "a" {
			t.Fatalf("Last: %d, the connection is of %q", s.Last(), s.Of(1))
		}
	}
	used(t, s, 2*second, 1, 2)
}

// P20.2: Do notes its time whatever it answers; what asks notes none.
func TestNotes(t *testing.T) {
	s := serving(t, rate(1, 5), lease(2, 5, second))
	at := 2 * second
	for _, r := range []api.Request{{}, hello("z"), wantFlow(1, 1), hello("a"), giveBack(1), wantToken(2, 1), wantFlow(9, 1), wantFlow(1, 6), wantFlow(1, 5)} {
		at += 10
		do(t, s, at, 1, r)
		if s.Last() != at {
			t.Errorf("behind %+v at %d: Last %d", r, at, s.Last())
		}
	}
	s.Used(api.MaxTime, 1)
	s.Out(api.MaxTime)
	s.Quiet(api.MaxTime, 1)
	s.Load("b")
	s.Open(2)
	s.Close(2)
	if s.Last() != at {
		t.Errorf("Last: %d, want %d", s.Last(), at)
	}
	used(t, s, at, 1, 5)
	out(t, s, at, token.Token{Number: 1, Id: 2, Count: 1, Until: at - 30 + second})
}

// P20.3: Used has ErrNone of an Id that no namespace has, and ErrForm, unless there is one text of a Value, and none of others.
func TestUsedErrors(t *testing.T) {
	s := serving(t, rate(1, 5), value(2, 5), lease(3, 5, second))
	tests := []struct {
		id   int
		text []string
		want api.Errno
	}{
		{0, nil, api.ErrNone}, {-1, nil, api.ErrNone}, {4, nil, api.ErrNone}, {4, []string{"a", "b"}, api.ErrNone}, {math.MinInt, nil, api.ErrNone}, {math.MaxInt, nil, api.ErrNone},
		{1, nil, api.OK}, {1, []string{""}, api.ErrForm}, {1, []string{"a"}, api.ErrForm},
		{2, nil, api.ErrForm}, {2, []string{"a"}, api.OK}, {2, []string{""}, api.OK}, {2, []string{"a", "b"}, api.ErrForm}, {2, []string{strings.Repeat("x", 1000)}, api.OK},
		{3, nil, api.OK}, {3, []string{"a"}, api.ErrForm},
	}
	for _, x := range tests {
		if n, err := s.Used(second, x.id, x.text...); n != 0 || err != x.want {
			t.Errorf("Used of %d, %q: %d, %v, want %v", x.id, x.text, n, err, x.want)
		}
	}
	do(t, s, second, 1, wantFlow(1, 2))
	load(t, s, "a")
	if n, err := s.Used(second, 1); n != 0 || err != api.ErrNone {
		t.Errorf("Used of an Id that is had no more: %d, %v", n, err)
	}
}

// P1, P2: calls of nil.
func TestNil(t *testing.T) {
	var s *token.Server
	if err := s.Load("", rate(0, 0)); err != api.ErrNil {
		t.Errorf("Load: %v", err)
	}
	if err := s.Open(0); err != api.ErrNil {
		t.Errorf("Open: %v", err)
	}
	if err := s.Close(0); err != api.ErrNil {
		t.Errorf("Close: %v", err)
	}
	if a, err := s.Do(-1, 0, api.Request{Id: 7}); a != (api.Answer{}) || err != api.ErrNil {
		t.Errorf("Do: %+v, %v", a, err)
	}
	if err := s.Restart(-1); err != api.ErrNil {
		t.Errorf("Restart: %v", err)
	}
	if n, err := s.Used(-1, 0); n != 0 || err != api.ErrNil {
		t.Errorf("Used: %d, %v", n, err)
	}
	if l, err := s.Out(-1); len(l) != 0 || err != api.ErrNil {
		t.Errorf("Out: %v, %v", l, err)
	}
	if len(s.Flows("a")) != 0 || len(s.Namespaces()) != 0 || len(s.Conns()) != 0 || s.Of(1) != "" || s.Quiet(0, 1) || s.Last() != 0 || s.Fork() != nil {
		t.Error("what a nil server tells")
	}
}

// P3: lists that are handed in, answered, and kept are apart.
func TestOwnMemory(t *testing.T) {
	s := newServer(t, 0)
	room := []token.Flow{rate(1, 1), rate(2, 2), rate(3, 3)}
	was := slices.Clone(room)
	load(t, s, "a", room[:2]...)
	load(t, s, "b")
	if !slices.Equal(room, was) {
		t.Errorf("the list became %+v", room)
	}
	clear(room)
	for range 2 {
		l := s.Flows("a")
		if !slices.Equal(l, was[:2]) {
			t.Fatalf("Flows: %+v", l)
		}
		clear(l[:cap(l)])
		names := s.Namespaces()
		if !slices.Equal(names, []string{"a", "b"}) {
			t.Fatalf("Namespaces: %q", names)
		}
		clear(names[:cap(names)])
	}
	load(t, s, "b", lease(3, 9, second))
	open(t, s, 1, "b")
	open(t, s, 2, "b")
	do(t, s, second, 1, wantToken(3, 1))
	for range 2 {
		l, _ := s.Out(second)
		if !slices.Equal(l, []token.Token{{Number: 1, Id: 3, Count: 1, Until: 2 * second}}) {
			t.Fatalf("Out: %+v", l)
		}
		clear(l[:cap(l)])
		conns := s.Conns()
		if !slices.Equal(conns, []int{1, 2}) {
			t.Fatalf("Conns: %v", conns)
		}
		clear(conns[:cap(conns)])
	}
}

// P4: of a server and its Fork, what becomes of the one changes nothing of the other one.
func TestFork(t *testing.T) {
	s := serving(t, rate(1, 5), value(2, 5), lease(3, 5, 9*second))
	at := 10 * second
	do(t, s, at, 1, wantFlow(1, 2))
	do(t, s, at, 1, wantParam(2, 2, "v"))
	do(t, s, at, 1, wantToken(3, 2))
	same := func(s *token.Server, what string) {
		t.Helper()
		used(t, s, at, 1, 2)
		used(t, s, at, 2, 2, "v")
		used(t, s, at, 3, 2)
		out(t, s, at, token.Token{Number: 1, Id: 3, Count: 2, Until: at + 9*second})
		if s.Last() != at || !slices.Equal(s.Conns(), []int{1}) || s.Of(1) != "a" || !slices.Equal(s.Namespaces(), []string{"a"}) || len(s.Flows("a")) != 3 || s.Quiet(at, 1) {
			t.Errorf("%s: %d, %v, %q, %q", what, s.Last(), s.Conns(), s.Of(1), s.Namespaces())
		}
	}
	change := func(s *token.Server) {
		t.Helper()
		answers(t, s, at+1, 1, wantFlow(1, 1), api.Answer{Status: api.Granted, Left: 2})
		answers(t, s, at+1, 1, wantParam(2, 1, "v"), api.Answer{Status: api.Granted, Left: 2})
		answers(t, s, at+1, 1, wantToken(3, 1), api.Answer{Status: api.Granted, Left: 2, Token: 2, Wait: 9 * second})
		answers(t, s, at+1, 1, giveBack(1), api.Answer{Status: api.Released})
		load(t, s, "a", rate(1, 1))
		load(t, s, "b", rate(4, 1))
		s.Open(2)
		do(t, s, at+1, 2, hello("b"))
		do(t, s, at+1, 1, hello("b"))
	}
	one := s.Fork()
	same(one, "a fork")
	change(one)
	same(s, "that of which a fork was changed")
	other := s.Fork()
	change(s)
	same(other, "a fork of what was changed")
	one = other.Fork()
	if err := one.Restart(at + 5); err != api.OK {
		t.Fatal(err)
	}
	same(other, "that of which a fork began anew")
	change(other)
	used(t, one, at+5, 1, 0)
}

// P20.3: Quiet till a second, or the lease, behind the beginning; not towards an Id that no namespace has.
func TestQuiet(t *testing.T) {
	for _, begun := range []int{0, 12345, api.MaxTime - 2*second} {
		s := newServer(t, begun)
		load(t, s, "a", rate(1, 5), value(2, 5), lease(3, 5, second), lease(4, 5, second+1), lease(5, 5, 3600*second))
		for id, lasts := range map[int]int{1: second, 2: second, 3: second, 4: second + 1, 5: 3600 * second} {
			for _, after := range []int{0, 1, lasts - 1, lasts, lasts + 1, 2 * lasts} {
				if got := s.Quiet(begun+after, id); got != (after < lasts) {
					t.Errorf("begun at %d: Quiet(%d, %d) %v", begun, begun+after, id, got)
				}
			}
		}
		for _, id := range []int{0, -1, 6, math.MaxInt} {
			if s.Quiet(begun, id) {
				t.Errorf("Quiet of %d, which none has", id)
			}
		}
		load(t, s, "a", lease(1, 5, 2*second))
		if !s.Quiet(begun+2*second-1, 1) || s.Quiet(begun+2*second, 1) || s.Quiet(begun, 2) {
			t.Error("of others that were loaded")
		}
	}
}

// P20.2: a Restart lets connections, counts and tokens go; namespaces stay, and numbers of tokens go on.
func TestRestart(t *testing.T) {
	s := serving(t, rate(1, 5), value(2, 5), lease(3, 5, 5*second))
	load(t, s, "b", rate(4, 9))
	was := standing(s)
	at := 10 * second
	s.Open(2)
	do(t, s, at, 1, wantFlow(1, 5))
	do(t, s, at, 1, wantParam(2, 5, "v"))
	answers(t, s, at, 1, wantToken(3, 2), api.Answer{Status: api.Granted, Left: 3, Token: 1, Wait: 5 * second})
	answers(t, s, at, 1, wantToken(3, 3), api.Answer{Status: api.Granted, Left: 0, Token: 2, Wait: 5 * second})
	if err := s.Restart(at + 7); err != api.OK || s.Last() != at+7 || len(s.Conns()) != 0 || s.Of(1) != "" {
		t.Errorf("Restart: %v, Last %d, %v, %q", err, s.Last(), s.Conns(), s.Of(1))
	}
	out(t, s, at+7)
	used(t, s, at+7, 1, 0)
	used(t, s, at+7, 2, 0, "v")
	used(t, s, at+7, 3, 0)
	if !sameFlows(was, standing(s)) || !slices.Equal(s.Namespaces(), []string{"a", "b"}) {
		t.Errorf("the namespaces: %+v", standing(s))
	}
	if _, err := s.Do(at+6, 1, hello("a")); err != api.ErrBack {
		t.Errorf("ahead of it: %v", err)
	}
	if _, err := s.Do(at+7, 1, hello("a")); err != api.ErrNone {
		t.Errorf("a connection that was: %v", err)
	}
	open(t, s, 1, "a")
	answers(t, s, at+7, 1, giveBack(1), api.Answer{Status: api.Unknown})
	answers(t, s, at+7+second-1, 1, wantFlow(1, 1), api.Answer{Status: api.Quiet})
	answers(t, s, at+7+second-1, 1, wantParam(2, 1, "v"), api.Answer{Status: api.Quiet})
	answers(t, s, at+7+second, 1, wantFlow(1, 5), api.Answer{Status: api.Granted})
	answers(t, s, at+7+second, 1, wantParam(2, 5, "v"), api.Answer{Status: api.Granted})
	answers(t, s, at+7+5*second-1, 1, wantToken(3, 1), api.Answer{Status: api.Quiet})
	answers(t, s, at+7+5*second, 1, wantToken(3, 1), api.Answer{Status: api.Granted, Left: 4, Token: 3, Wait: 5 * second})
	for range 2 {
		if err := s.Restart(api.MaxTime); err != api.OK || s.Last() != api.MaxTime || !s.Quiet(api.MaxTime, 1) {
			t.Errorf("at the last time: %v, %d", err, s.Last())
		}
	}
}

// P20.1: what an Id counted stays, whatever is loaded; of another Kind it counts anew.
func TestCountsStay(t *testing.T) {
	s := serving(t, rate(1, 5), value(2, 5), lease(3, 5, 2*second))
	at := 10 * second
	do(t, s, at, 1, wantFlow(1, 3))
	do(t, s, at, 1, wantParam(2, 3, "v"))
	do(t, s, at, 1, wantToken(3, 3))
	stay := func(what string) {
		t.Helper()
		used(t, s, at, 1, 3)
		used(t, s, at, 2, 3, "v")
		used(t, s, at, 3, 3)
		out(t, s, at, token.Token{Number: 1, Id: 3, Count: 3, Until: at + 2*second})
		if t.Failed() {
			t.Fatal(what)
		}
	}
	load(t, s, "a", rate(1, 2), value(2, 0), lease(3, 1, second))
	stay("of other counts")
	answers(t, s, at, 1, wantFlow(1, 1), api.Answer{Status: api.Refused})
	answers(t, s, at, 1, wantParam(2, 1, "v"), api.Answer{Status: api.Refused})
	answers(t, s, at, 1, wantToken(3, 1), api.Answer{Status: api.Refused})
	load(t, s, "a")
	out(t, s, at, token.Token{Number: 1, Id: 3, Count: 3, Until: at + 2*second})
	answers(t, s, at, 1, giveBack(1), api.Answer{Status: api.Unknown})
	load(t, s, "b", value(2, 5), rate(1, 5), lease(3, 5, second))
	stay("in another namespace")
	load(t, s, "b")
	load(t, s, "a", rate(2, 5), value(1, 5), lease(3, 5, second))
	used(t, s, at, 1, 0, "v")
	used(t, s, at, 2, 0)
	used(t, s, at, 3, 3)
	load(t, s, "a", value(2, 5), rate(1, 5), rate(3, 5))
	used(t, s, at, 1, 0)
	used(t, s, at, 2, 0, "v")
	used(t, s, at, 3, 0)
	out(t, s, at, token.Token{Number: 1, Id: 3, Count: 3, Until: at + 2*second})
	answers(t, s, at, 1, giveBack(1), api.Answer{Status: api.Released})
}

// P20.1: an Id that was of another Kind when it was loaded last counts anew, also if no namespace had it meanwhile.
func TestCountsAnewOfAnotherKind(t *testing.T) {
	s := serving(t, rate(1, 5))
	at := 10 * second
	do(t, s, at, 1, wantFlow(1, 3))
	load(t, s, "a")
	load(t, s, "a", value(1, 5))
	used(t, s, at, 1, 0, "v")
	load(t, s, "a", rate(1, 5))
	used(t, s, at, 1, 0)
	answers(t, s, at, 1, wantFlow(1, 5), api.Answer{Status: api.Granted})
	load(t, s, "a", lease(1, 5, second))
	load(t, s, "a", rate(1, 5))
	used(t, s, at, 1, 0)
}

// P20.1, P20.5: the tokens of an Id whose Kind was another one meanwhile are out, and count.
func TestTokensStayOut(t *testing.T) {
	s := serving(t, lease(1, 5, 9*second))
	at := 10 * second
	do(t, s, at, 1, wantToken(1, 3))
	load(t, s, "a", rate(1, 5))
	used(t, s, at, 1, 0)
	load(t, s, "a", lease(1, 5, second))
	used(t, s, at, 1, 3)
	answers(t, s, at, 1, wantToken(1, 3), api.Answer{Status: api.Refused, Left: 2})
	used(t, s, at+9*second-1, 1, 3)
	used(t, s, at+9*second, 1, 0)
}

// names are so many texts.
func names(n int) []string {
	var l []string
	for i := range n {
		l = append(l, "v"+strconv.Itoa(i))
	}
	return l
}
