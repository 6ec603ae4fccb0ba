package client_test

import (
	"bytes"
	"math"
	"slices"
	"strings"
	"testing"

	"spillway/api"
	"spillway/client"
	"spillway/frame"
	"spillway/proto"
)

const second = api.Second

// usual is a setting for tests.
var usual = client.Setting{Timeout: 1000, Least: 100, Most: 750}

func newClient(t *testing.T, s client.Setting) *client.Client {
	t.Helper()
	c, err := client.New(s, "app")
	if err != api.OK {
		t.Fatal(err)
	}
	return c
}

// connected is a client that was connected at 0, and has said Hello.
func connected(t *testing.T, s client.Setting) *client.Client {
	t.Helper()
	c := newClient(t, s)
	ok(t, "Up(0)", c.Up(0))
	c.Send()
	return c
}

func ok(t *testing.T, what string, err api.Errno) {
	t.Helper()
	if err != api.OK {
		t.Fatalf("%s: %v", what, err)
	}
}

func wantFlow(flow, count int) api.Request {
	return api.Request{Want: api.WantFlow, Flow: flow, Count: count}
}

// ask holds that a request waits by a number.
func ask(t *testing.T, c *client.Client, at, number int) {
	t.Helper()
	if n, falls, err := c.Ask(at, wantFlow(1, 1)); n != number || falls || err != api.OK {
		t.Fatalf("Ask(%d): %d, %v, %v, want the number %d", at, n, falls, err, number)
	}
}

func granted(id int) api.Answer { return api.Answer{Id: id, Status: api.Granted, Left: 4} }

// answer is a frame of one.
func answer(t *testing.T, a api.Answer) []byte {
	t.Helper()
	b, err := proto.Answer(a)
	ok(t, "Answer", err)
	return framed(b)
}

func framed(payload []byte) []byte {
	b, _ := frame.Frame(payload)
	return b
}

// asked is the frame of a request.
func asked(t *testing.T, r api.Request) []byte {
	t.Helper()
	b, err := proto.Request(r)
	ok(t, "Request", err)
	return framed(b)
}

func fallback(id int) client.Told { return client.Told{Id: id, Fallback: true} }

func answered(a api.Answer) client.Told { return client.Told{Id: a.Id, Answer: a} }

func told(t *testing.T, c *client.Client, want ...client.Told) {
	t.Helper()
	if l := c.Told(); !slices.Equal(l, want) {
		t.Errorf("Told: %+v, want %+v", l, want)
	}
}

func waiting(t *testing.T, c *client.Client, want ...int) {
	t.Helper()
	if l := c.Waiting(); !slices.Equal(l, want) {
		t.Errorf("Waiting: %v, want %v", l, want)
	}
}

func sends(t *testing.T, c *client.Client, want ...[]byte) {
	t.Helper()
	if b := c.Send(); !bytes.Equal(b, slices.Concat(want...)) {
		t.Errorf("Send: %v, want %v", b, slices.Concat(want...))
	}
}

// mayDial holds Dial of a fork, so that nothing is noted.
func mayDial(t *testing.T, c *client.Client, at int, want bool) {
	t.Helper()
	if may, err := c.Fork().Dial(at); may != want || err != api.OK {
		t.Errorf("Dial(%d): %v, %v, want %v", at, may, err, want)
	}
}

// dialsFrom holds that it may dial from a time on, and not ahead of it.
func dialsFrom(t *testing.T, c *client.Client, at int) {
	t.Helper()
	mayDial(t, c, at-1, false)
	mayDial(t, c, at, true)
}

// Chapter 21, example 1: an answer in time is told, a later one is thrown away.
func TestExample(t *testing.T) {
	c := connected(t, usual)
	ask(t, c, 0, 1)
	ok(t, "Bytes(999)", c.Bytes(999, answer(t, granted(1))))
	told(t, c, answered(granted(1)))

	c = connected(t, usual)
	ask(t, c, 0, 1)
	ok(t, "Tick(1000)", c.Tick(1000))
	told(t, c, fallback(1))
	ok(t, "Bytes(1001)", c.Bytes(1001, answer(t, granted(1))))
	told(t, c)
}

// P21.1: New holds the setting within its limits, which are microseconds.
func TestNewRange(t *testing.T) {
	for _, x := range []struct {
		timeout, least, most int
		err                  api.Errno
	}{
		{1, 1, 1, api.OK}, {1000, 1, 1, api.OK}, {60 * second, 1, 1, api.OK}, {500000, 100000, 1000000, api.OK},
		{1, 3600 * second, 3600 * second, api.OK}, {1, 1, 3600 * second, api.OK}, {1, 2, 2, api.OK}, {1, 2, 3, api.OK},
		{0, 1, 1, api.ErrRange}, {-1, 1, 1, api.ErrRange}, {60*second + 1, 1, 1, api.ErrRange}, {math.MinInt, 1, 1, api.ErrRange}, {math.MaxInt, 1, 1, api.ErrRange},
		{1, 0, 1, api.ErrRange}, {1, -1, 1, api.ErrRange}, {1, math.MinInt, 1, api.ErrRange}, {1, 0, 0, api.ErrRange}, {1, -5, -5, api.ErrRange},
		{1, 2, 1, api.ErrRange}, {1, 1, 0, api.ErrRange}, {1, 1, -1, api.ErrRange}, {1, 1, 3600*second + 1, api.ErrRange}, {1, 1, math.MaxInt, api.ErrRange},
		{1, 3600*second + 1, 3600*second + 1, api.ErrRange}, {1, math.MaxInt, math.MaxInt, api.ErrRange}, {0, 0, 0, api.ErrRange},
	} {
		s := client.Setting{Timeout: x.timeout, Least: x.least, Most: x.most}
		if c, err := client.New(s, "a"); err != x.err || (c == nil) != (err != api.OK) {
			t.Errorf("New(%+v): %v, %v, want %v", s, c, err, x.err)
		}
		want := x.err
		if want == api.OK {
			want = api.ErrName
		}
		if c, err := client.New(s, ""); c != nil || err != want {
			t.Errorf("New(%+v) of no name: %v, %v, want %v", s, c, err, want)
		}
	}
}

// P21.1: New asks for a name; a client begins not connected, with nothing.
func TestNewName(t *testing.T) {
	for _, name := range []string{"a", "!", "~", "cluster", strings.Repeat("x", api.MaxName)} {
		c, err := client.New(usual, name)
		if err != api.OK || c.Connected() {
			t.Fatalf("New of %q: %v", name, err)
		}
		told(t, c)
		waiting(t, c)
		sends(t, c)
		mayDial(t, c, 0, true)
		ok(t, "Up", c.Up(0))
		sends(t, c, asked(t, api.Request{Want: api.Hello, Text: name}))
	}
	for _, name := range []string{"", " ", "a b", "a\n", "\x7f", "ä", "\x00", "\xff", strings.Repeat("x", api.MaxName+1)} {
		if c, err := client.New(usual, name); c != nil || err != api.ErrName {
			t.Errorf("New of %q: %v, %v", name, c, err)
		}
	}
}

// timed are all calls with a time.
func timed(t *testing.T) map[string]func(c *client.Client, at int) api.Errno {
	return map[string]func(c *client.Client, at int) api.Errno{
		"Ask": func(c *client.Client, at int) api.Errno {
			n, falls, err := c.Ask(at, wantFlow(1, 1))
			if err != api.OK && (n != 0 || falls) {
				t.Errorf("Ask(%d): %d, %v, %v", at, n, falls, err)
			}
			return err
		},
		"Dial": func(c *client.Client, at int) api.Errno {
			may, err := c.Dial(at)
			if err != api.OK && may {
				t.Errorf("Dial(%d): %v, %v", at, may, err)
			}
			return err
		},
		"Up":      (*client.Client).Up,
		"Refused": (*client.Client).Refused,
		"Lost":    (*client.Client).Lost,
		"Bytes":   func(c *client.Client, at int) api.Errno { return c.Bytes(at, nil) },
		"Tick":    (*client.Client).Tick,
	}
}

// P21.1: all calls with a time have ErrNil, ErrRange, ErrBack ahead of their own errors, and change nothing then.
func TestTimes(t *testing.T) {
	for name, call := range timed(t) {
		for _, at := range []int{-1, 0, 5, api.MaxTime, api.MaxTime + 1, math.MinInt, math.MaxInt} {
			if err := call(nil, at); err != api.ErrNil {
				t.Errorf("%s(%d) of nil: %v", name, at, err)
			}
		}
		for _, up := range []bool{false, true} {
			c := newClient(t, usual)
			if up {
				c = connected(t, usual)
				ask(t, c, 50, 1)
			}
			ok(t, "Tick", c.Tick(500))
			for at, want := range map[int]api.Errno{-1: api.ErrRange, math.MinInt: api.ErrRange, api.MaxTime + 1: api.ErrRange, math.MaxInt: api.ErrRange, 499: api.ErrBack, 0: api.ErrBack} {
				if err := call(c, at); err != want {
					t.Errorf("%s(%d) behind 500: %v, want %v", name, at, err, want)
				}
			}
			told(t, c)
			if c.Connected() != up || len(c.Waiting()) > 0 != up {
				t.Errorf("%s refused: connected %v, waiting %v", name, c.Connected(), c.Waiting())
			}
			if err := call(c.Fork(), 500); err == api.ErrBack || err == api.ErrRange {
				t.Errorf("%s(500) behind 500: %v", name, err)
			}
			if err := call(c, api.MaxTime); err == api.ErrBack || err == api.ErrRange {
				t.Errorf("%s(MaxTime): %v", name, err)
			}
			if err := c.Tick(api.MaxTime - 1); err != api.ErrBack {
				t.Errorf("Tick behind %s(MaxTime): %v", name, err)
			}
		}
	}
}

// P21.1: all calls with a time note it, and first do its Tick, also with errors of their own.
func TestTickFirst(t *testing.T) {
	bad := func(c *client.Client, at int) api.Errno {
		_, _, err := c.Ask(at, api.Request{})
		return err
	}
	calls := timed(t)
	calls["a wrong Ask"] = bad
	calls["Bytes of no frame"] = func(c *client.Client, at int) api.Errno { return c.Bytes(at, make([]byte, 4)) }
	wrong := map[string]api.Errno{"Up": api.ErrUp, "Refused": api.ErrUp, "a wrong Ask": api.ErrForm, "Bytes of no frame": api.ErrFrame}
	for name, call := range calls {
		c := connected(t, usual)
		ask(t, c, 1, 1)
		ask(t, c, 2, 2)
		if err := call(c, 1001); err != wrong[name] {
			t.Errorf("%s: %v, want %v", name, err, wrong[name])
		}
		l := c.Told()
		if len(l) == 0 || l[0] != fallback(1) || c.Connected() && len(l) > 1 {
			t.Errorf("%s: told %+v", name, l)
		}
		if err := c.Tick(1000); err != api.ErrBack {
			t.Errorf("Tick behind %s: %v", name, err)
		}
	}
	for name, call := range map[string]func(c *client.Client, at int) api.Errno{"Lost": calls["Lost"], "Bytes": calls["Bytes"], "a wrong Ask": bad} {
		c := newClient(t, usual)
		want := api.ErrDown
		if name == "a wrong Ask" {
			want = api.ErrForm
		}
		if err := call(c, 7); err != want {
			t.Errorf("%s without a connection: %v, want %v", name, err, want)
		}
		if err := c.Tick(6); err != api.ErrBack {
			t.Errorf("Tick behind %s: %v", name, err)
		}
	}
}

// P21.2: Tick lets fall back what was asked Timeout or more ago, in order; the connection stays.
func TestTick(t *testing.T) {
	c := connected(t, usual)
	for i, at := range []int{10, 10, 11, 500, 1009} {
		ask(t, c, at, i+1)
	}
	ok(t, "Tick", c.Tick(1009))
	told(t, c)
	ok(t, "Tick", c.Tick(1010))
	told(t, c, fallback(1), fallback(2))
	waiting(t, c, 3, 4, 5)
	ok(t, "Tick", c.Tick(1011))
	ok(t, "Tick", c.Tick(2008))
	told(t, c, fallback(3), fallback(4))
	waiting(t, c, 5)
	ok(t, "Tick", c.Tick(api.MaxTime))
	told(t, c, fallback(5))
	waiting(t, c)
	if !c.Connected() {
		t.Error("not connected behind Tick")
	}
	ask(t, c, api.MaxTime, 6)
	waiting(t, c, 6)
}

// P21.2: Ask has ErrForm for a request that is not right whatever its Id, and for a Hello.
func TestAskForm(t *testing.T) {
	wrong := []api.Request{
		{}, {Want: 6, Flow: 1, Count: 1}, {Want: api.WantFlow}, {Want: api.WantFlow, Flow: 1}, {Want: api.WantFlow, Count: 1},
		{Want: api.WantFlow, Flow: 1, Count: 1, Text: "a"}, {Want: api.WantFlow, Flow: 1, Count: api.MaxCount + 1}, {Want: api.WantToken, Flow: 1, Count: 1, Token: 1},
		{Want: api.WantParam, Flow: 1, Count: 1, Text: strings.Repeat("x", api.MaxName+1)}, {Want: api.GiveBack}, {Want: api.GiveBack, Token: -1},
		{Want: api.Hello, Text: "app"}, {Want: api.Hello}, {Id: 3, Want: api.Hello, Text: "app"},
	}
	for _, c := range []*client.Client{newClient(t, usual), connected(t, usual)} {
		for _, r := range wrong {
			if n, falls, err := c.Ask(0, r); n != 0 || falls || err != api.ErrForm {
				t.Errorf("Ask of %+v: %d, %v, %v", r, n, falls, err)
			}
		}
		told(t, c)
		waiting(t, c)
		sends(t, c)
	}
	right := []api.Request{
		wantFlow(1, 1), {Want: api.WantParam, Flow: 9, Count: 2}, {Want: api.WantParam, Flow: 9, Count: 2, Text: "a b\x00"},
		{Want: api.WantToken, Flow: api.MaxCount, Count: api.MaxCount}, {Want: api.GiveBack, Token: 1<<31 - 1},
	}
	for i, id := range []int{0, 1, 77, -1, math.MinInt, math.MaxInt, 1 << 31} {
		c := connected(t, usual)
		for k, r := range right {
			r.Id = id
			if n, falls, err := c.Ask(i, r); n != k+1 || falls || err != api.OK {
				t.Errorf("Ask of %+v: %d, %v, %v", r, n, falls, err)
			}
			r.Id = k + 1
			sends(t, c, asked(t, r))
		}
	}
}

// P21.2: Ask falls back at once, and that is not told, if it is not connected, or as many wait as may; such a request has no number.
func TestAskFallsBack(t *testing.T) {
	falls := func(c *client.Client, at int) {
		t.Helper()
		if n, falls, err := c.Ask(at, wantFlow(1, 1)); n != 0 || !falls || err != api.OK {
			t.Errorf("Ask(%d): %d, %v, %v", at, n, falls, err)
		}
	}
	c := newClient(t, usual)
	falls(c, 0)
	falls(c, 5)
	told(t, c)
	sends(t, c)
	ok(t, "Up", c.Up(5))
	c.Send()
	for i := range api.MaxPending {
		ask(t, c, 5+i, i+1)
	}
	c.Send()
	falls(c, 500)
	if len(c.Waiting()) != api.MaxPending {
		t.Errorf("%d wait", len(c.Waiting()))
	}
	told(t, c)
	sends(t, c)
	falls(c, 1004)
	ask(t, c, 1005, api.MaxPending+1) // as the first one fell back by now
	falls(c, 1005)
	told(t, c, fallback(1))
	ok(t, "Bytes", c.Bytes(1005, answer(t, granted(9))))
	ask(t, c, 1005, api.MaxPending+2)
	falls(c, 1005)
	ok(t, "Lost", c.Lost(1005))
	c.Told()
	falls(c, 1005)
	told(t, c)
	ok(t, "Up", c.Up(1005))
	ask(t, c, 1005, api.MaxPending+3)
}

// P21.2: Dial tells whether it is not connected and may dial.
func TestDial(t *testing.T) {
	c := newClient(t, usual)
	mayDial(t, c, 0, true)
	mayDial(t, c, api.MaxTime, true)
	ok(t, "Refused", c.Refused(20))
	mayDial(t, c, 20, false)
	dialsFrom(t, c, 120)
	mayDial(t, c, api.MaxTime, true)
	ok(t, "Up", c.Up(30)) // also where it did not ask
	for _, at := range []int{30, 119, 120, api.MaxTime} {
		mayDial(t, c, at, false)
	}
	ok(t, "Lost", c.Lost(40))
	dialsFrom(t, c, 140)
	if may, err := c.Dial(140); !may || err != api.OK {
		t.Errorf("Dial: %v, %v", may, err)
	}
	mayDial(t, c, 140, true) // it stays so till a dial fails
}

// P21.3, P21.8: the backoff is doubled by each dial that fails, and by each connection that is lost, up to Most; a connection makes it Least.
func TestBackoff(t *testing.T) {
	c := newClient(t, usual) // 100 to 750
	at := 3
	for _, backoff := range []int{100, 200, 400, 750, 750, 750} {
		ok(t, "Refused", c.Refused(at))
		dialsFrom(t, c, at+backoff)
		at += backoff + 5
	}
	ok(t, "Up", c.Up(at))
	ok(t, "Lost", c.Lost(at+1))
	dialsFrom(t, c, at+101)
	ok(t, "Refused", c.Refused(at+1)) // also where it might not dial
	dialsFrom(t, c, at+201)
	ok(t, "Refused", c.Refused(at+2))
	dialsFrom(t, c, at+402)
	ok(t, "Up", c.Up(at+402))
	if err := c.Bytes(at+403, []byte{0, 0, 0, 0}); err != api.ErrFrame {
		t.Fatal(err)
	}
	dialsFrom(t, c, at+503)
	ok(t, "Refused", c.Refused(at+503))
	dialsFrom(t, c, at+703)

	one := newClient(t, client.Setting{Timeout: 1, Least: 7, Most: 7})
	for i := range 4 {
		ok(t, "Refused", one.Refused(i))
		dialsFrom(t, one, i+7)
	}
	long := newClient(t, client.Setting{Timeout: 1, Least: 3600 * second, Most: 3600 * second})
	for range 2 {
		ok(t, "Refused", long.Refused(5))
		dialsFrom(t, long, 5+3600*second)
	}
	ok(t, "Refused", long.Refused(api.MaxTime))
	mayDial(t, long, api.MaxTime, false)
}

// P21.3: Up and Refused have ErrUp of one that is connected, Lost ErrDown of one that is not, and nothing changes then.
func TestUpAndDown(t *testing.T) {
	c := newClient(t, usual)
	if err := c.Lost(0); err != api.ErrDown || c.Connected() {
		t.Errorf("Lost: %v", err)
	}
	mayDial(t, c, 0, true)
	ok(t, "Refused", c.Refused(0))
	if err := c.Lost(50); err != api.ErrDown {
		t.Errorf("Lost: %v", err)
	}
	dialsFrom(t, c, 100)
	ok(t, "Refused", c.Refused(100))
	dialsFrom(t, c, 300) // as Lost did not double it
	ok(t, "Up", c.Up(300))
	hello := asked(t, api.Request{Want: api.Hello, Text: "app"})
	ask(t, c, 300, 1)
	for _, err := range []api.Errno{c.Up(301), c.Refused(302), c.Up(303)} {
		if err != api.ErrUp {
			t.Errorf("Up or Refused: %v", err)
		}
	}
	if !c.Connected() {
		t.Error("not connected")
	}
	waiting(t, c, 1)
	one := wantFlow(1, 1)
	one.Id = 1
	sends(t, c, hello, asked(t, one))
	sends(t, c)
	ok(t, "Lost", c.Lost(304))
	if c.Connected() {
		t.Error("connected")
	}
	dialsFrom(t, c, 404) // as Refused did not double it
}

// P21.3: who is not connected any more lets fall back all that wait, in order, and throws away what is to be sent and what the reader has.
func TestLost(t *testing.T) {
	whole := answer(t, granted(4))
	for name, lose := range map[string]func(c *client.Client) api.Errno{
		"Lost":              func(c *client.Client) api.Errno { return c.Lost(5) },
		"Bytes of no frame": func(c *client.Client) api.Errno { return c.Bytes(5, bytes.Repeat([]byte{255}, 40)) },
	} {
		c := connected(t, usual)
		for i := range 3 {
			ask(t, c, i, i+1)
		}
		ok(t, "Bytes", c.Bytes(2, answer(t, granted(2))))
		part := whole[:9]
		if name != "Lost" {
			part = nil
		}
		ok(t, "Bytes", c.Bytes(3, part))
		lose(c)
		if c.Connected() {
			t.Errorf("%s: connected", name)
		}
		told(t, c, answered(granted(2)), fallback(1), fallback(3))
		waiting(t, c)
		sends(t, c)
		dialsFrom(t, c, 105)
		ok(t, "Up", c.Up(6))
		sends(t, c, asked(t, api.Request{Want: api.Hello, Text: "app"}))
		ask(t, c, 6, 4)
		ok(t, "Bytes", c.Bytes(7, whole)) // the reader begins anew
		told(t, c, answered(granted(4)))
	}
}

// P21.4: Bytes has ErrDown of one that is not connected, and takes none then.
func TestBytesDown(t *testing.T) {
	c := newClient(t, usual)
	for _, b := range [][]byte{nil, {0, 0}, {0, 0, 0, 0}, answer(t, granted(1))} {
		if err := c.Bytes(0, b); err != api.ErrDown {
			t.Errorf("Bytes of %v: %v", b, err)
		}
	}
	mayDial(t, c, 0, true)
	ok(t, "Up", c.Up(0))
	ask(t, c, 0, 1)
	ok(t, "Bytes", c.Bytes(0, answer(t, granted(1))))
	told(t, c, answered(granted(1)))
}

// P21.4: answers to what waits are told in the order in which they come, with all that they say; others are thrown away.
func TestBytes(t *testing.T) {
	all := []api.Answer{
		{Id: 3, Status: api.Refused, Left: api.MaxCount}, {Id: 1, Status: api.Granted, Left: 2, Wait: 1 << 40, Token: 1<<31 - 1}, {Id: 4, Status: api.Quiet},
		{Id: 5, Status: api.Released}, {Id: 2, Status: api.Bad},
	}
	var b []byte
	var want []client.Told
	for _, a := range all {
		none := []api.Answer{a, {Id: 0, Status: api.Granted}, {Id: 6, Status: api.Granted}, {Id: 1<<31 - 1, Status: api.Granted}}
		b = append(b, answer(t, a)...)
		for _, a := range none {
			b = append(b, answer(t, a)...) // a second answer is thrown away too
		}
		want = append(want, answered(a))
	}
	for cut := range len(b) + 1 {
		c := connected(t, usual)
		for i := range all {
			ask(t, c, 0, i+1)
		}
		ok(t, "Bytes", c.Bytes(1, b[:cut]))
		first := c.Told()
		ok(t, "Bytes", c.Bytes(2, b[cut:]))
		if l := slices.Concat(first, c.Told()); !slices.Equal(l, want) {
			t.Fatalf("cut at %d: told %+v", cut, l)
		}
		waiting(t, c)
		if !c.Connected() {
			t.Fatal("not connected")
		}
	}
}

// P21.4: what is no answer, or no frame, has ErrFrame: those ahead are told, those behind are not, and it is not connected any more.
func TestBytesFrame(t *testing.T) {
	one, two := answer(t, granted(1)), answer(t, granted(2))
	for name, bad := range map[string][]byte{
		"no answer":       framed([]byte("x")),
		"a request":       asked(t, wantFlow(1, 1)),
		"no Status":       framed(append([]byte{0}, one[5:]...)),
		"a short answer":  framed(one[4 : len(one)-1]),
		"a long answer":   framed(append(slices.Clone(one[4:]), 0)),
		"a long payload":  framed(make([]byte, api.MaxFrame)),
		"no length":       {0, 0, 0, 0},
		"a long length":   {0, 0, 16, 1},
		"a longer length": {255, 0, 0, 1},
	} {
		for cut := range min(len(one)+len(bad), 60) {
			c := connected(t, usual)
			for i := range 3 {
				ask(t, c, i, i+1)
			}
			b := slices.Concat(one, bad, two)
			ok(t, "Bytes", c.Bytes(10, b[:cut]))
			if err := c.Bytes(11, b[cut:]); err != api.ErrFrame || c.Connected() {
				t.Fatalf("%s, cut at %d: %v, connected %v", name, cut, err, c.Connected())
			}
			told(t, c, answered(granted(1)), fallback(2), fallback(3))
			waiting(t, c)
			sends(t, c)
			dialsFrom(t, c, 111)
			ok(t, "Refused", c.Refused(111))
			dialsFrom(t, c, 311) // it was doubled once
		}
	}
}

// P21.5: Send, Told hand over once; Waiting rises.
func TestHandedOnce(t *testing.T) {
	c := newClient(t, usual)
	ok(t, "Up", c.Up(0))
	want := asked(t, api.Request{Want: api.Hello, Text: "app"})
	for i := range 40 {
		ask(t, c, i, i+1)
		r := wantFlow(1, 1)
		r.Id = i + 1
		want = append(want, asked(t, r)...)
		if i%7 == 3 {
			sends(t, c, want)
			sends(t, c)
			want = nil
		}
	}
	if l := c.Waiting(); len(l) != 40 || !slices.IsSorted(l) || l[0] != 1 || l[39] != 40 {
		t.Errorf("Waiting: %v", l)
	}
	ok(t, "Bytes", c.Bytes(39, answer(t, granted(20))))
	ok(t, "Tick", c.Tick(1000))
	told(t, c, answered(granted(20)), fallback(1))
	told(t, c)
	sends(t, c, want)
}
