package token_test

import (
	"strings"
	"testing"

	"spillway/api"
	"spillway/token"
)

// P20.2: what proto.Right does not take is Bad, ahead of all else; its Id is told, whatever it is, and it changes nothing.
func TestBad(t *testing.T) {
	s := serving(t, rate(1, 5), lease(2, 5, second))
	if err := s.Open(2); err != api.OK {
		t.Fatal(err)
	}
	at := 2 * second
	do(t, s, at, 1, wantToken(2, 1))
	for _, r := range []api.Request{
		{}, {Id: 7}, {Id: 7, Want: 6}, {Id: -7, Want: api.Hello, Text: "a"}, {Id: 1 << 31, Want: api.WantFlow, Flow: 1, Count: 1},
		{Id: 7, Want: api.Hello}, {Id: 7, Want: api.Hello, Text: "a b"}, {Id: 7, Want: api.Hello, Text: "z", Flow: 1},
		{Id: 7, Want: api.WantFlow, Flow: 1}, {Id: 7, Want: api.WantFlow, Count: 1}, {Id: 7, Want: api.WantFlow, Flow: 1, Count: -1}, {Id: 7, Want: api.WantFlow, Flow: 1, Count: 1, Text: "a"},
		{Id: 7, Want: api.WantParam, Flow: 1, Count: 1, Text: strings.Repeat("x", 65)}, {Id: 7, Want: api.GiveBack}, {Id: 7, Want: api.GiveBack, Token: 1, Count: 1},
	} {
		for conn := 1; conn <= 2; conn++ {
			if a := do(t, s, at, conn, r); a != (api.Answer{Id: r.Id, Status: api.Bad}) {
				t.Errorf("Do(%d, %+v): %+v", conn, r, a)
			}
		}
		if s.Of(1) != "a" || s.Of(2) != "" {
			t.Fatalf("behind %+v: of %q, of %q", r, s.Of(1), s.Of(2))
		}
	}
	used(t, s, at, 1, 0)
	used(t, s, at, 2, 1)
}

// P20.2: Hello lets a connection be of a namespace, or of none, also while the server is quiet.
func TestHello(t *testing.T) {
	s := newServer(t, 0)
	load(t, s, "a", rate(1, 5))
	load(t, s, "b")
	s.Open(1)
	s.Open(2)
	steps := []struct {
		conn   int
		name   string
		status api.Status
		of     string
	}{
		{1, "z", api.Unknown, ""}, {1, "a", api.Granted, "a"}, {1, "a", api.Granted, "a"}, {1, "b", api.Granted, "b"},
		{2, "a", api.Granted, "a"}, {1, "A", api.Unknown, ""}, {1, "b", api.Granted, "b"}, {2, "c", api.Unknown, ""},
	}
	for _, x := range steps {
		answers(t, s, 0, x.conn, hello(x.name), api.Answer{Status: x.status})
		if s.Of(x.conn) != x.of {
			t.Errorf("behind Hello %s the connection is of %q", x.name, s.Of(x.conn))
		}
	}
	if s.Of(1) != "b" || s.Of(2) != "" {
		t.Errorf("of %q, of %q", s.Of(1), s.Of(2))
	}
	load(t, s, "c")
	answers(t, s, 0, 2, hello("c"), api.Answer{Status: api.Granted})
}

// P20.2: a connection of no namespace is told Unknown, whatever it asks.
func TestOfNone(t *testing.T) {
	s := serving(t, rate(1, 5), value(2, 5), lease(3, 5, 9*second))
	s.Open(2)
	at := 10 * second
	answers(t, s, at, 1, wantToken(3, 1), api.Answer{Status: api.Granted, Left: 4, Token: 1, Wait: 9 * second})
	for _, r := range []api.Request{wantFlow(1, 1), wantParam(2, 1, "v"), wantToken(3, 1), giveBack(1), wantFlow(9, 9)} {
		answers(t, s, at, 2, r, api.Answer{Status: api.Unknown})
	}
	answers(t, s, at, 1, hello("z"), api.Answer{Status: api.Unknown})
	answers(t, s, at, 1, giveBack(1), api.Answer{Status: api.Unknown})
	answers(t, s, at, 1, wantFlow(1, 1), api.Answer{Status: api.Unknown})
	used(t, s, at, 1, 0)
	used(t, s, at, 3, 1)
}

// P20.2: a flow that the namespace has not, or that is of another Kind than is asked for, is Unknown, also while the server is quiet.
func TestUnknown(t *testing.T) {
	s := serving(t, rate(1, 5), value(2, 5), lease(3, 5, second))
	load(t, s, "b", rate(4, 5), value(5, 5), lease(6, 5, second))
	for _, at := range []int{0, 2 * second} {
		status := api.Quiet
		if at > 0 {
			status = api.Granted
		}
		for id := 1; id <= 7; id++ {
			want := map[api.Want]api.Status{api.WantFlow: api.Unknown, api.WantParam: api.Unknown, api.WantToken: api.Unknown}
			if id <= 3 {
				want[api.Want(id)] = status
			}
			for _, r := range []api.Request{wantFlow(id, 1), wantParam(id, 1, ""), wantToken(id, 1)} {
				a := says(t, s, at, 1, r, want[r.Want])
				if want[r.Want] != api.Granted && a != (api.Answer{Status: want[r.Want]}) {
					t.Errorf("%+v: %+v", r, a)
				}
			}
		}
	}
	for _, id := range []int{4, 5, 6} {
		text := []string{"v"}[:id%2]
		used(t, s, 2*second, id, 0, text...)
	}
}

// P20.2: while the server is quiet towards a flow it grants and refuses nothing of it; Hello and GiveBack are answered.
func TestQuietAnswers(t *testing.T) {
	s := newServer(t, 500)
	load(t, s, "a", rate(1, 0), value(2, 5), lease(3, 5, 3*second))
	open(t, s, 1, "a")
	for _, x := range []struct {
		r     api.Request
		lasts int
		then  api.Answer
	}{
		{wantFlow(1, 1), second, api.Answer{Status: api.Refused}},
		{wantParam(2, 6, "v"), second, api.Answer{Status: api.Refused, Left: 5}},
		{wantToken(3, 6), 3 * second, api.Answer{Status: api.Refused, Left: 5}},
	} {
		s := s.Fork()
		answers(t, s, 500, 1, x.r, api.Answer{Status: api.Quiet})
		answers(t, s, 500+x.lasts-1, 1, giveBack(1), api.Answer{Status: api.Unknown})
		answers(t, s, 500+x.lasts-1, 1, x.r, api.Answer{Status: api.Quiet})
		answers(t, s, 500+x.lasts, 1, x.r, x.then)
	}
}

// P20.2: of a Rate what passes in the window of a second is granted, and Left is told.
func TestWantFlow(t *testing.T) {
	s := serving(t, rate(1, 5), rate(2, 1), rate(3, api.MaxCount))
	at := 2 * second
	for _, x := range []struct {
		after, flow, count int
		status             api.Status
		left               int
	}{
		{0, 1, 6, api.Refused, 5}, {0, 1, 2, api.Granted, 3}, {10, 1, 4, api.Refused, 3}, {99999, 1, 3, api.Granted, 0}, {99999, 1, 1, api.Refused, 0},
		{99999, 2, 2, api.Refused, 1}, {99999, 2, 1, api.Granted, 0}, {100000, 2, 1, api.Refused, 0}, {100000, 1, api.MaxCount, api.Refused, 0},
		{100000, 3, api.MaxCount, api.Granted, 0}, {100000, 3, 1, api.Refused, 0},
		{999999, 1, 1, api.Refused, 0}, {1000000, 1, 6, api.Refused, 5}, {1000000, 1, 5, api.Granted, 0}, {1099999, 3, 1, api.Refused, 0}, {1100000, 3, 1, api.Granted, api.MaxCount - 1},
		{1999999, 1, 1, api.Refused, 0}, {2000000, 1, 1, api.Granted, 4},
	} {
		answers(t, s, at+x.after, 1, wantFlow(x.flow, x.count), api.Answer{Status: x.status, Left: x.left})
	}
	used(t, s, at+2000000, 1, 1)
	used(t, s, at+2999999, 1, 1)
	used(t, s, at+3000000, 1, 0)
}

// P20.2: Left is 0, if more is used than the flow has by now; a flow that grows grants again.
func TestOfLess(t *testing.T) {
	s := serving(t, rate(1, 5), value(2, 5), lease(3, 5, second))
	at := 2 * second
	do(t, s, at, 1, wantFlow(1, 4))
	do(t, s, at, 1, wantParam(2, 4, "v"))
	do(t, s, at, 1, wantToken(3, 4))
	asks := []api.Request{wantFlow(1, 1), wantParam(2, 1, "v"), wantToken(3, 1)}
	for _, x := range []struct{ count, left int }{{0, 0}, {1, 0}, {3, 0}, {4, 0}} {
		load(t, s, "a", rate(1, x.count), value(2, x.count), lease(3, x.count, second))
		for _, r := range asks {
			answers(t, s, at, 1, r, api.Answer{Status: api.Refused, Left: x.left})
		}
	}
	load(t, s, "a", rate(1, 7), value(2, 7), lease(3, 7, 2*second))
	answers(t, s, at, 1, wantFlow(1, 1), api.Answer{Status: api.Granted, Left: 2})
	answers(t, s, at, 1, wantParam(2, 1, "v"), api.Answer{Status: api.Granted, Left: 2})
	answers(t, s, at, 1, wantToken(3, 1), api.Answer{Status: api.Granted, Left: 2, Token: 2, Wait: 2 * second})
	out(t, s, at, token.Token{Number: 1, Id: 3, Count: 4, Until: at + second}, token.Token{Number: 2, Id: 3, Count: 1, Until: at + 2*second})
}

// P20.2: of a Value each text has the flow's Count for itself, also the empty one.
func TestWantParam(t *testing.T) {
	s := serving(t, value(1, 5), value(2, 5))
	at := 2 * second
	full := strings.Repeat("\xff", api.MaxName)
	for _, x := range []struct {
		after, flow, count int
		text               string
		status             api.Status
		left               int
	}{
		{0, 1, 2, "v", api.Granted, 3}, {0, 1, 4, "v", api.Refused, 3}, {0, 1, 5, "w", api.Granted, 0}, {99999, 1, 3, "v", api.Granted, 0}, {99999, 1, 1, "v", api.Refused, 0},
		{99999, 1, 1, "", api.Granted, 4}, {99999, 1, 1, full, api.Granted, 4}, {99999, 2, 1, "v", api.Granted, 4},
		{999999, 1, 1, "v", api.Refused, 0}, {999999, 1, 1, "w", api.Refused, 0}, {1000000, 1, 5, "w", api.Granted, 0}, {1000000, 1, 5, "v", api.Granted, 0},
		{1999999, 1, 1, "v", api.Refused, 0}, {2000000, 1, 1, "v", api.Granted, 4},
	} {
		answers(t, s, at+x.after, 1, wantParam(x.flow, x.count, x.text), api.Answer{Status: x.status, Left: x.left})
	}
	used(t, s, at+2000000, 1, 1, "v")
	used(t, s, at+2000000, 1, 0, "other")
}

// P20.2: of a Lease so many tokens are out at a time, each with a number, until its time is reached, or it is given back.
func TestWantToken(t *testing.T) {
	s := serving(t, lease(1, 5, 2*second), lease(2, 3, 7*second))
	at := 10 * second
	granted := func(left, number, lasts int) api.Answer {
		return api.Answer{Status: api.Granted, Left: left, Token: number, Wait: lasts}
	}
	answers(t, s, at, 1, wantToken(1, 6), api.Answer{Status: api.Refused, Left: 5})
	answers(t, s, at, 1, wantToken(1, 2), granted(3, 1, 2*second))
	answers(t, s, at+5, 1, wantToken(2, 3), granted(0, 2, 7*second))
	answers(t, s, at+9, 1, wantToken(1, 3), granted(0, 3, 2*second))
	answers(t, s, at+2*second-1, 1, wantToken(1, 1), api.Answer{Status: api.Refused})
	one := token.Token{Number: 1, Id: 1, Count: 2, Until: at + 2*second}
	two := token.Token{Number: 2, Id: 2, Count: 3, Until: at + 5 + 7*second}
	three := token.Token{Number: 3, Id: 1, Count: 3, Until: at + 9 + 2*second}
	out(t, s, at+2*second-1, one, two, three)
	out(t, s, at+2*second, two, three)
	used(t, s, at+2*second-1, 1, 5)
	used(t, s, at+2*second, 1, 3)
	used(t, s, at+2*second+8, 1, 3)
	used(t, s, at+2*second+9, 1, 0)
	out(t, s, at+20*second)
	answers(t, s, at+2*second, 1, wantToken(1, 3), api.Answer{Status: api.Refused, Left: 2})
	answers(t, s, at+2*second, 1, wantToken(1, 2), granted(0, 4, 2*second))
	answers(t, s, at+2*second, 1, giveBack(3), api.Answer{Status: api.Released})
	answers(t, s, at+2*second, 1, wantToken(1, 1), granted(2, 5, 2*second))
	out(t, s, at+2*second, two, token.Token{Number: 4, Id: 1, Count: 2, Until: at + 4*second}, token.Token{Number: 5, Id: 1, Count: 1, Until: at + 4*second})
}

// P20.2: GiveBack is Released, if the token is out and its Id the namespace's, of whatever connection it is.
func TestGiveBack(t *testing.T) {
	s := serving(t, lease(1, 5, 2*second))
	load(t, s, "b", lease(2, 5, 2*second))
	open(t, s, 2, "b")
	open(t, s, 3, "a")
	at := 10 * second
	do(t, s, at, 1, wantToken(1, 2))
	do(t, s, at, 2, wantToken(2, 2))
	do(t, s, at, 1, wantToken(1, 1))
	for number, conn := range map[int]int{1: 2, 2: 1, 3: 2, 4: 1, 1<<31 - 1: 2} {
		answers(t, s, at, conn, giveBack(number), api.Answer{Status: api.Unknown})
	}
	used(t, s, at, 1, 3)
	used(t, s, at, 2, 2)
	answers(t, s, at, 3, giveBack(1), api.Answer{Status: api.Released})
	answers(t, s, at, 3, giveBack(1), api.Answer{Status: api.Unknown})
	used(t, s, at, 1, 1)
	if err := s.Close(1); err != api.OK {
		t.Fatal(err)
	}
	used(t, s, at, 1, 1)
	answers(t, s, at+2*second-1, 2, giveBack(2), api.Answer{Status: api.Released})
	answers(t, s, at+2*second, 3, giveBack(3), api.Answer{Status: api.Unknown})
}

// P20.2: with MaxTokens tokens out it is TooMany, whatever their Ids are; what is above the flow's Count is Refused.
func TestTooMany(t *testing.T) {
	s := serving(t, lease(1, api.MaxCount, second), lease(2, 2000, 3600*second), lease(3, 1, second))
	at := 3600 * second
	for number := 1; number <= api.MaxTokens; number++ {
		flow, left, lasts := 1, api.MaxCount-number, second
		if number > 1000 {
			flow, left, lasts = 2, 2000-(number-1000), 3600*second
		}
		want := api.Answer{Status: api.Granted, Left: left, Token: number, Wait: lasts}
		if a := do(t, s, at, 1, wantToken(flow, 1)); a != want {
			t.Fatalf("the token %d: %+v, want %+v", number, a, want)
		}
	}
	for flow := 1; flow <= 3; flow++ {
		answers(t, s, at+second-1, 1, wantToken(flow, 1), api.Answer{Status: api.TooMany})
	}
	answers(t, s, at+second-1, 1, wantToken(2, 1977), api.Answer{Status: api.Refused, Left: 1976})
	answers(t, s, at+second-1, 1, wantToken(3, 2), api.Answer{Status: api.Refused, Left: 1})
	used(t, s, at+second-1, 1, 1000)
	one := s.Fork()
	answers(t, one, at+second-1, 1, giveBack(1000), api.Answer{Status: api.Released})
	answers(t, one, at+second-1, 1, wantToken(3, 1), api.Answer{Status: api.Granted, Token: 1025, Wait: second})
	answers(t, one, at+second-1, 1, wantToken(1, 1), api.Answer{Status: api.TooMany})
	answers(t, s, at+second, 1, wantToken(2, 1), api.Answer{Status: api.Granted, Left: 1975, Token: 1025, Wait: 3600 * second})
	if l, err := s.Out(at + second); len(l) != 25 || err != api.OK {
		t.Errorf("%d are out, %v", len(l), err)
	}
}
