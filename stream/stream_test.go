package stream_test

import (
	"math"
	"slices"
	"testing"

	"spillway/api"
	"spillway/stream"
)

func ok(t *testing.T, what string, err api.Errno) {
	t.Helper()
	if err != api.OK {
		t.Fatalf("%s: %v", what, err)
	}
}

// dialled is a net with so many connections to the port 80.
func dialled(t *testing.T, conns int) *stream.Net {
	t.Helper()
	n := stream.New()
	ok(t, "Listen", n.Listen(80))
	for i := range conns {
		dials(t, n, 80, i+1)
	}
	return n
}

func dials(t *testing.T, n *stream.Net, port, want int) {
	t.Helper()
	if conn, err := n.Dial(port); conn != want || err != api.OK {
		t.Fatalf("Dial(%d): %d, %v, want %d", port, conn, err, want)
	}
}

func refusesDial(t *testing.T, n *stream.Net, port int, want api.Errno) {
	t.Helper()
	if conn, err := n.Dial(port); conn != 0 || err != want {
		t.Errorf("Dial(%d): %d, %v, want %v", port, conn, err, want)
	}
}

func moves(t *testing.T, n *stream.Net, conn, end, most, want int) {
	t.Helper()
	if m, err := n.Move(conn, end, most); m != want || err != api.OK {
		t.Errorf("Move(%d, %d, %d): %d, %v, want %d", conn, end, most, m, err, want)
	}
}

func reads(t *testing.T, n *stream.Net, conn, end, most int, want string, wantOver bool) {
	t.Helper()
	if b, over, err := n.Read(conn, end, most); string(b) != want || over != wantOver || err != api.OK {
		t.Errorf("Read(%d, %d, %d): %q, %v, %v, want %q, %v", conn, end, most, b, over, err, want, wantOver)
	}
}

func looks(t *testing.T, n *stream.Net, conn, end, wantWay, wantCome int) {
	t.Helper()
	if way, come, err := n.Look(conn, end); way != wantWay || come != wantCome || err != api.OK {
		t.Errorf("Look(%d, %d): %d, %d, %v, want %d, %d", conn, end, way, come, err, wantWay, wantCome)
	}
}

func conns(t *testing.T, n *stream.Net, want ...int) {
	t.Helper()
	if l := n.Conns(); !slices.Equal(l, want) {
		t.Errorf("Conns: %v, want %v", l, want)
	}
}

// upTo are the numbers from 1 to n.
func upTo(n int) []int {
	var l []int
	for i := range n {
		l = append(l, i+1)
	}
	return l
}

// Chapter 22, example 1: bytes come as they are moved, and a broken connection has none.
func TestExample(t *testing.T) {
	n := stream.New()
	ok(t, "Listen", n.Listen(80))
	dials(t, n, 80, 1)
	ok(t, "Write", n.Write(1, 0, []byte("abc")...))
	moves(t, n, 1, 0, 2, 2)
	reads(t, n, 1, 1, 9, "ab", false)
	ok(t, "Break", n.Break(1))
	if b, over, err := n.Read(1, 1, 9); len(b) != 0 || over || err != api.ErrDown {
		t.Errorf("Read of a broken one: %q, %v, %v", b, over, err)
	}
	refusesDial(t, n, 81, api.ErrDown)
}

// P22.1: Listen opens all of the ports, or none; Stop closes all, or none, and connections stay.
func TestPorts(t *testing.T) {
	n := stream.New()
	for _, port := range []int{1, 80, 65535} {
		refusesDial(t, n, port, api.ErrDown)
	}
	wrong := []int{0, -1, 65536, math.MinInt, math.MaxInt, 1 << 32, 65536 + 80}
	for _, port := range wrong {
		for _, l := range [][]int{{port}, {port, 80}, {80, port}, {80, port, 81}} {
			if err := n.Listen(l...); err != api.ErrRange {
				t.Errorf("Listen(%v): %v", l, err)
			}
		}
		refusesDial(t, n, port, api.ErrRange)
	}
	refusesDial(t, n, 80, api.ErrDown)
	ok(t, "Listen", n.Listen())
	ok(t, "Listen", n.Listen(1, 80, 65535, 80))
	ok(t, "Listen", n.Listen(80))
	for i, port := range []int{1, 80, 65535, 80} {
		dials(t, n, port, i+1)
	}
	for _, port := range wrong {
		for _, l := range [][]int{{port}, {port, 80}, {80, port}} {
			if err := n.Stop(l...); err != api.ErrRange {
				t.Errorf("Stop(%v): %v", l, err)
			}
		}
	}
	dials(t, n, 80, 5)
	ok(t, "Stop", n.Stop())
	dials(t, n, 80, 6)
	ok(t, "Stop", n.Stop(80, 1, 80, 9)) // 9 was not open
	for _, port := range []int{1, 9, 80} {
		refusesDial(t, n, port, api.ErrDown)
	}
	dials(t, n, 65535, 7)
	conns(t, n, upTo(7)...)
	ok(t, "Write", n.Write(2, 0, 'a'))
	moves(t, n, 2, 0, 1, 1)
	reads(t, n, 2, 1, 1, "a", false)
	ok(t, "Listen", n.Listen(80))
	dials(t, n, 80, 8)
}

// P22.1: Dial has ErrFull, if there are as many connections as may be that are not broken; each one's number is its own.
func TestDialFull(t *testing.T) {
	n := dialled(t, api.MaxConns)
	refusesDial(t, n, 80, api.ErrFull)
	refusesDial(t, n, 81, api.ErrDown)
	refusesDial(t, n, 0, api.ErrRange)
	conns(t, n, upTo(api.MaxConns)...)
	ok(t, "Shut", n.Shut(1, 0))
	ok(t, "Shut", n.Shut(1, 1))
	refusesDial(t, n, 80, api.ErrFull)
	ok(t, "Break", n.Break(1, 3))
	dials(t, n, 80, api.MaxConns+1)
	dials(t, n, 80, api.MaxConns+2)
	refusesDial(t, n, 80, api.ErrFull)
	ok(t, "Break", n.Break(n.Conns()...))
	conns(t, n)
	dials(t, n, 80, api.MaxConns+3)
	conns(t, n, api.MaxConns+3)
}

// ends are all calls of an end of a connection.
func ends(t *testing.T) map[string]func(n *stream.Net, conn, end, most int) api.Errno {
	return map[string]func(n *stream.Net, conn, end, most int) api.Errno{
		"Write": func(n *stream.Net, conn, end, _ int) api.Errno { return n.Write(conn, end, 'x') },
		"Write of none": func(n *stream.Net, conn, end, _ int) api.Errno {
			return n.Write(conn, end)
		},
		"Move": func(n *stream.Net, conn, end, most int) api.Errno {
			m, err := n.Move(conn, end, most)
			if err != api.OK && m != 0 {
				t.Errorf("Move(%d, %d, %d): %d, %v", conn, end, most, m, err)
			}
			return err
		},
		"Read": func(n *stream.Net, conn, end, most int) api.Errno {
			b, over, err := n.Read(conn, end, most)
			if err != api.OK && (len(b) > 0 || over) {
				t.Errorf("Read(%d, %d, %d): %q, %v, %v", conn, end, most, b, over, err)
			}
			return err
		},
		"Shut": func(n *stream.Net, conn, end, _ int) api.Errno { return n.Shut(conn, end) },
		"Look": func(n *stream.Net, conn, end, _ int) api.Errno {
			way, come, err := n.Look(conn, end)
			if err != api.OK && (way != 0 || come != 0) {
				t.Errorf("Look(%d, %d): %d, %d, %v", conn, end, way, come, err)
			}
			return err
		},
	}
}

// P22.2: ErrNil, ErrNone, ErrRange, ErrDown, the first that applies, and nothing changes then.
func TestRefused(t *testing.T) {
	for name, call := range ends(t) {
		n := dialled(t, 3)
		for conn := range 3 {
			for end := range 2 {
				ok(t, "Write", n.Write(conn+1, end, 'a', 'b'))
				moves(t, n, conn+1, end, 1, 1)
			}
		}
		ok(t, "Break", n.Break(2))
		for _, conn := range []int{0, 4, -1, math.MinInt, math.MaxInt} {
			for _, end := range []int{0, 1, 2, -1} {
				for _, most := range []int{-1, 1} {
					if err := call(n, conn, end, most); err != api.ErrNone {
						t.Errorf("%s(%d, %d, %d): %v", name, conn, end, most, err)
					}
					if err := call(nil, conn, end, most); err != api.ErrNil {
						t.Errorf("%s of nil: %v", name, err)
					}
				}
			}
		}
		for _, end := range []int{2, -1, 3, math.MinInt, math.MaxInt} {
			for _, conn := range []int{1, 2, 3} {
				if err := call(n, conn, end, 1); err != api.ErrRange {
					t.Errorf("%s(%d, %d): %v", name, conn, end, err)
				}
			}
		}
		for _, most := range []int{-1, math.MinInt} {
			for _, conn := range []int{1, 2} {
				if err := call(n, conn, 0, most); err != api.ErrRange && (name == "Move" || name == "Read") {
					t.Errorf("%s(%d, 0, %d): %v", name, conn, most, err)
				}
			}
		}
		for end := range 2 {
			if err := call(n, 2, end, 1); err != api.ErrDown {
				t.Errorf("%s(2, %d) of a broken one: %v", name, end, err)
			}
		}
		for end := range 2 {
			looks(t, n, 3, end, 1, 1)
		}
		conns(t, n, 1, 3)
	}
}

// P22.2: Write has ErrDown, if that end has closed, and ErrFull, if more would be under way than may be; none is taken then.
func TestWrite(t *testing.T) {
	n := dialled(t, 2)
	most := make([]byte, api.MaxText)
	for i := range most {
		most[i] = byte(i % 251)
	}
	ok(t, "Write", n.Write(1, 0, most...))
	if err := n.Write(1, 0, 'x'); err != api.ErrFull {
		t.Errorf("Write of one byte more: %v", err)
	}
	ok(t, "Write of none", n.Write(1, 0))
	looks(t, n, 1, 0, api.MaxText, 0)
	ok(t, "Write of the other end", n.Write(1, 1, most...))
	ok(t, "Write of another one", n.Write(2, 0, most[1:]...))
	if err := n.Write(2, 0, 'x', 'y'); err != api.ErrFull {
		t.Errorf("Write of two bytes more: %v", err)
	}
	looks(t, n, 2, 0, api.MaxText-1, 0)
	if err := n.Write(2, 1, append(most, 'x')...); err != api.ErrFull {
		t.Errorf("Write of too many: %v", err)
	}
	looks(t, n, 2, 1, 0, 0)
	moves(t, n, 1, 0, 3, 3)
	if err := n.Write(1, 0, 'w', 'x', 'y', 'z'); err != api.ErrFull {
		t.Errorf("Write of four bytes where there is room for three: %v", err)
	}
	ok(t, "Write", n.Write(1, 0, 'x', 'y', 'z'))
	looks(t, n, 1, 0, api.MaxText, 0)
	looks(t, n, 1, 1, api.MaxText, 3)
	moves(t, n, 1, 0, math.MaxInt, api.MaxText)
	ok(t, "Write", n.Write(1, 0, most...)) // what has come does not count
	moves(t, n, 1, 0, math.MaxInt, api.MaxText)
	if b, _, err := n.Read(1, 1, math.MaxInt); string(b) != string(most)+"xyz"+string(most) || err != api.OK {
		t.Errorf("Read: %d bytes, %v", len(b), err)
	}
	ok(t, "Shut", n.Shut(1, 1))
	for _, b := range [][]byte{nil, {'x'}, append(most, 'x')} {
		if err := n.Write(1, 1, b...); err != api.ErrDown {
			t.Errorf("Write of a closed end: %v", err)
		}
	}
	ok(t, "Write of the other end", n.Write(1, 0, 'x'))
}

// P22.2: Move and Read take so many bytes, at most, in order, of that end alone; none, if there are none.
func TestMoveRead(t *testing.T) {
	n := dialled(t, 1)
	moves(t, n, 1, 0, 5, 0)
	reads(t, n, 1, 0, 5, "", false)
	ok(t, "Write", n.Write(1, 0, []byte("abcde")...))
	ok(t, "Write", n.Write(1, 1, []byte("ABCDE")...))
	ok(t, "Write", n.Write(1, 0, []byte("fgh")...))
	reads(t, n, 1, 1, 9, "", false)
	moves(t, n, 1, 0, 0, 0)
	moves(t, n, 1, 0, 3, 3)
	moves(t, n, 1, 1, 4, 4)
	looks(t, n, 1, 0, 5, 4)
	looks(t, n, 1, 1, 1, 3)
	reads(t, n, 1, 1, 0, "", false)
	reads(t, n, 1, 1, 2, "ab", false)
	moves(t, n, 1, 0, 4, 4)
	reads(t, n, 1, 0, math.MaxInt, "ABCD", false)
	reads(t, n, 1, 1, math.MaxInt, "cdefg", false)
	moves(t, n, 1, 0, math.MaxInt, 1)
	moves(t, n, 1, 0, math.MaxInt, 0)
	reads(t, n, 1, 1, 1, "h", false)
	reads(t, n, 1, 1, 1, "", false)
	looks(t, n, 1, 0, 0, 0)
	looks(t, n, 1, 1, 1, 0)
}

// P22.2, P22.6: it is over for an end just if the other one has closed, and all that it wrote was read.
func TestOver(t *testing.T) {
	for end := range 2 {
		other := 1 - end
		n := dialled(t, 2)
		ok(t, "Write", n.Write(1, end, []byte("abc")...))
		ok(t, "Shut", n.Shut(1, end))
		reads(t, n, 1, other, 9, "", false)
		moves(t, n, 1, end, 2, 2)
		reads(t, n, 1, other, 1, "a", false)
		reads(t, n, 1, other, 1, "b", false)
		moves(t, n, 1, end, 1, 1)
		reads(t, n, 1, other, 0, "", false)
		reads(t, n, 1, other, 1, "c", true)
		reads(t, n, 1, other, 1, "", true)
		reads(t, n, 1, other, 0, "", true)
		reads(t, n, 1, end, 9, "", false) // the other one has not closed
		ok(t, "Write", n.Write(1, other, 'x'))
		moves(t, n, 1, other, 1, 1)
		reads(t, n, 1, end, 9, "x", false)
		reads(t, n, 2, other, 9, "", false)

		ok(t, "Shut", n.Shut(2, end))
		reads(t, n, 2, other, 9, "", true)
		ok(t, "Write", n.Write(2, other, 'x'))
		reads(t, n, 2, other, 9, "", true)
		ok(t, "Shut", n.Shut(2, other))
		reads(t, n, 2, end, 9, "", false)
		moves(t, n, 2, other, 9, 1)
		reads(t, n, 2, end, 9, "x", true)
	}
}

// P22.2: an end closes once; what it wrote stays, and may be moved and read.
func TestShut(t *testing.T) {
	n := dialled(t, 2)
	ok(t, "Write", n.Write(1, 0, 'a'))
	ok(t, "Shut", n.Shut(1, 0))
	if err := n.Shut(1, 0); err != api.ErrDown {
		t.Errorf("Shut again: %v", err)
	}
	looks(t, n, 1, 0, 1, 0)
	ok(t, "Shut of the other end", n.Shut(1, 1))
	ok(t, "Shut of another one", n.Shut(2, 0))
	if err := n.Shut(1, 1); err != api.ErrDown {
		t.Errorf("Shut again: %v", err)
	}
	moves(t, n, 1, 0, 9, 1)
	reads(t, n, 1, 1, 9, "a", true)
	conns(t, n, 1, 2)
	ok(t, "Break", n.Break(1))
}

// P22.3: Break has ErrNone ahead of ErrDown, and none breaks then; else all break.
func TestBreak(t *testing.T) {
	n := dialled(t, 5)
	ok(t, "Break", n.Break())
	ok(t, "Break", n.Break(4))
	for _, x := range []struct {
		l    []int
		want api.Errno
	}{
		{[]int{0}, api.ErrNone}, {[]int{6}, api.ErrNone}, {[]int{-1}, api.ErrNone}, {[]int{math.MaxInt}, api.ErrNone}, {[]int{math.MinInt}, api.ErrNone},
		{[]int{1, 6}, api.ErrNone}, {[]int{6, 1}, api.ErrNone}, {[]int{4, 6}, api.ErrNone}, {[]int{6, 4}, api.ErrNone}, {[]int{1, 1, 6}, api.ErrNone}, {[]int{6, 6}, api.ErrNone},
		{[]int{4}, api.ErrDown}, {[]int{1, 4}, api.ErrDown}, {[]int{4, 1}, api.ErrDown}, {[]int{4, 4}, api.ErrDown},
		{[]int{1, 1}, api.ErrDown}, {[]int{2, 1, 3, 2}, api.ErrDown}, {[]int{5, 3, 3}, api.ErrDown},
	} {
		before := slices.Clone(x.l)
		if err := n.Break(x.l...); err != x.want || !slices.Equal(x.l, before) {
			t.Errorf("Break(%v): %v, want %v", before, err, x.want)
		}
	}
	conns(t, n, 1, 2, 3, 5)
	ok(t, "Break", n.Break(5, 1, 3))
	conns(t, n, 2)
	ok(t, "Break", n.Break(2))
	conns(t, n)
	var none *stream.Net
	for _, l := range [][]int{nil, {0}, {1, 1}} {
		if err := none.Break(l...); err != api.ErrNil {
			t.Errorf("Break(%v) of nil: %v", l, err)
		}
	}
}

// P22.3: Port is to which port a connection was dialled, also of a broken one.
func TestPort(t *testing.T) {
	n := stream.New()
	ok(t, "Listen", n.Listen(1, 80, 65535))
	for i, port := range []int{80, 65535, 1, 80} {
		dials(t, n, port, i+1)
	}
	ok(t, "Stop", n.Stop(1, 80))
	ok(t, "Break", n.Break(1, 2))
	for conn, want := range map[int]int{1: 80, 2: 65535, 3: 1, 4: 80, 0: 0, 5: 0, -1: 0, math.MinInt: 0, math.MaxInt: 0} {
		if port := n.Port(conn); port != want {
			t.Errorf("Port(%d): %d, want %d", conn, port, want)
		}
	}
}

// P1, P22.1 to P22.3: a nil one has ErrNil ahead of all, and answers zero values.
func TestNil(t *testing.T) {
	var n *stream.Net
	for _, err := range []api.Errno{n.Listen(), n.Listen(0), n.Listen(80), n.Stop(), n.Stop(0), n.Stop(80)} {
		if err != api.ErrNil {
			t.Errorf("Listen or Stop of nil: %v", err)
		}
	}
	refusesDial(t, n, 80, api.ErrNil)
	refusesDial(t, n, 0, api.ErrNil)
	if n.Port(1) != 0 || n.Conns() != nil || n.Fork() != nil {
		t.Error("a nil net has something")
	}
	if stream.New().Port(1) != 0 {
		t.Error("Port of a new one")
	}
	conns(t, stream.New())
}

// P22.3, P4: what becomes of the one changes nothing of the other one.
func TestFork(t *testing.T) {
	standing := func() *stream.Net {
		n := dialled(t, 3)
		ok(t, "Write", n.Write(1, 0, []byte("abcdef")...))
		ok(t, "Write", n.Write(1, 1, []byte("ABCDEF")...))
		moves(t, n, 1, 0, 3, 3)
		moves(t, n, 1, 1, 3, 3)
		ok(t, "Shut", n.Shut(2, 0))
		ok(t, "Break", n.Break(3))
		return n
	}
	stands := func(n *stream.Net) {
		t.Helper()
		conns(t, n, 1, 2)
		dials(t, n, 80, 4)
		refusesDial(t, n, 81, api.ErrDown)
		looks(t, n, 1, 0, 3, 3)
		looks(t, n, 1, 1, 3, 3)
		reads(t, n, 2, 1, 9, "", true)
		reads(t, n, 2, 0, 9, "", false)
		moves(t, n, 1, 0, 9, 3)
		moves(t, n, 1, 1, 9, 3)
		reads(t, n, 1, 1, 9, "abcdef", false)
		reads(t, n, 1, 0, 9, "ABCDEF", false)
		if n.Port(3) != 80 {
			t.Errorf("Port(3): %d", n.Port(3))
		}
	}
	for name, use := range map[string]func(n *stream.Net){
		"used up": stands,
		"breaks":  func(n *stream.Net) { n.Break(1, 2) },
		"ports":   func(n *stream.Net) { n.Stop(80); n.Listen(81); n.Dial(81) },
		"writes": func(n *stream.Net) {
			n.Write(1, 0, []byte("xyz")...)
			n.Write(1, 1, []byte("xyz")...)
			n.Move(1, 0, 5)
			n.Move(1, 1, 5)
		},
		"reads": func(n *stream.Net) {
			for end := range 2 {
				b, _, _ := n.Read(1, end, 2)
				clear(b[:cap(b)])
			}
		},
		"shuts": func(n *stream.Net) { n.Shut(1, 0); n.Shut(2, 1) },
	} {
		t.Run(name, func(t *testing.T) {
			n := standing()
			fork := n.Fork()
			use(fork)
			stands(n.Fork())
			other := n.Fork()
			use(n)
			stands(other)
		})
	}
}

// P3: bytes that were handed in, or answered, may change: what is under way, or has come, does not.
func TestOwnMemory(t *testing.T) {
	n := dialled(t, 1)
	room := []byte("abcdefgh")
	ok(t, "Write", n.Write(1, 0, room[:5]...))
	if string(room) != "abcdefgh" {
		t.Errorf("Write changed what it was handed: %q", room)
	}
	clear(room)
	moves(t, n, 1, 0, 4, 4)
	b, _, _ := n.Read(1, 1, 2)
	kept := append(b, "zz"...)
	ok(t, "Write", n.Write(1, 0, 'i', 'j'))
	moves(t, n, 1, 0, 1, 1)
	if string(kept) != "abzz" {
		t.Errorf("what Read answered was changed: %q", kept)
	}
	clear(kept[:cap(kept)])
	moves(t, n, 1, 0, 9, 2)
	reads(t, n, 1, 1, 9, "cdeij", false)
	l := n.Conns()
	clear(l[:cap(l)])
	conns(t, n, 1)
	ports := []int{90, 91}
	ok(t, "Listen", n.Listen(ports...))
	clear(ports)
	dials(t, n, 90, 2)
}
