package stream_test

import (
	"fmt"
	"math/rand"
	"slices"
	"testing"

	"spillway/api"
	"spillway/stream"
)

// half is all that one end ever wrote, and how much of it was moved, and was read.
type half struct {
	wrote       string
	moved, read int
	closed      bool
}

// link is a connection of the model.
type link struct {
	port   int
	broken bool
	halves [2]half
}

// model is a net as the document tells of it.
type model struct {
	open  map[int]bool
	links []link
}

func (m *model) fork() *model {
	fork := &model{open: map[int]bool{}, links: slices.Clone(m.links)}
	for port, is := range m.open {
		fork.open[port] = is
	}
	return fork
}

func (m *model) conns() []int {
	var l []int
	for i, one := range m.links {
		if !one.broken {
			l = append(l, i+1)
		}
	}
	return l
}

// of is a connection, or the error of a call of one of its ends.
func (m *model) of(conn, end, most int) (*link, api.Errno) {
	if conn < 1 || conn > len(m.links) {
		return nil, api.ErrNone
	}
	one := &m.links[conn-1]
	if end*end != end || most < 0 {
		return nil, api.ErrRange
	}
	if one.broken {
		return nil, api.ErrDown
	}
	return one, api.OK
}

func (m *model) dial(port int) (int, api.Errno) {
	switch {
	case port < 1 || port > 65535:
		return 0, api.ErrRange
	case !m.open[port]:
		return 0, api.ErrDown
	case len(m.conns()) == api.MaxConns:
		return 0, api.ErrFull
	}
	m.links = append(m.links, link{port: port})
	return len(m.links), api.OK
}

func (m *model) write(conn, end int, b string) api.Errno {
	one, err := m.of(conn, end, 0)
	if err != api.OK {
		return err
	}
	h := &one.halves[end]
	switch {
	case h.closed:
		return api.ErrDown
	case len(h.wrote)-h.moved+len(b) > api.MaxText:
		return api.ErrFull
	}
	h.wrote += b
	return api.OK
}

func (m *model) move(conn, end, most int) (int, api.Errno) {
	one, err := m.of(conn, end, most)
	if err != api.OK {
		return 0, err
	}
	h := &one.halves[end]
	before := h.moved
	for h.moved < len(h.wrote) && h.moved-before < most {
		h.moved++
	}
	return h.moved - before, api.OK
}

func (m *model) reads(conn, end, most int) (string, bool, api.Errno) {
	one, err := m.of(conn, end, most)
	if err != api.OK {
		return "", false, err
	}
	h := &one.halves[1-end]
	before := h.read
	for h.read < h.moved && h.read-before < most {
		h.read++
	}
	return h.wrote[before:h.read], h.closed && h.read == len(h.wrote), api.OK
}

func (m *model) shut(conn, end int) api.Errno {
	one, err := m.of(conn, end, 0)
	switch {
	case err != api.OK:
		return err
	case one.halves[end].closed:
		return api.ErrDown
	}
	one.halves[end].closed = true
	return api.OK
}

func (m *model) breaks(l []int) api.Errno {
	twice := false
	for i, conn := range l {
		one, err := m.of(conn, 0, 0)
		if err == api.ErrNone {
			return err
		}
		twice = twice || one == nil || slices.Contains(l[:i], conn)
	}
	if twice {
		return api.ErrDown
	}
	for _, conn := range l {
		m.links[conn-1].broken = true
	}
	return api.OK
}

// pair is a net and its model.
type pair struct {
	*stream.Net
	*model
}

func pick[T any](r *rand.Rand, l ...T) T { return l[r.Intn(len(l))] }

// text is some bytes, now and then very many.
func text(r *rand.Rand) string {
	b := make([]byte, pick(r, 0, 1, 1+r.Intn(20), 1+r.Intn(20), 40000*(1-min(1, r.Intn(2)))))
	for i := range b {
		b[i] = byte(r.Intn(256))
	}
	return string(b)
}

// ported does something with ports with both.
func (p pair) ported(r *rand.Rand) (name string, got, want api.Errno) {
	var l []int
	for range r.Intn(3) {
		l = append(l, pick(r, 1+r.Intn(4), 1+r.Intn(4), 1+r.Intn(4), 65535, 0, 65536))
	}
	bad := slices.ContainsFunc(l, func(port int) bool { return port < 1 || port > 65535 })
	if bad {
		want = api.ErrRange
	}
	name = pick(r, "Listen", "Listen", "Stop")
	if name == "Listen" {
		got = p.Listen(l...)
	} else {
		got = p.Stop(l...)
	}
	for _, port := range l {
		if !bad {
			p.open[port] = name == "Listen"
		}
	}
	return name, got, want
}

// step does one thing with both; what it tells is what was wrong.
func (p pair) step(r *rand.Rand, counted map[string]int) string {
	conn, end, most := r.Intn(len(p.links)+2), r.Intn(2), pick(r, 0, 1, r.Intn(10), r.Intn(30000), 1<<40)
	if l := p.conns(); len(l) > 0 && r.Intn(8) > 0 {
		conn = pick(r, l[:min(len(l), 4)]...)
	}
	if r.Intn(20) == 0 {
		end = pick(r, -1, 2)
	}
	if r.Intn(20) == 0 {
		most = -1
	}
	name, got, want := "", api.OK, api.OK
	switch n := r.Intn(100); {
	case n < 4:
		name, got, want = p.ported(r)
	case n < 14:
		port := pick(r, 1+r.Intn(4), 1+r.Intn(4), 65535, 0)
		a, err := p.Dial(port)
		b, wantErr := p.dial(port)
		if a != b {
			return fmt.Sprint("Dial ", port, a, b)
		}
		name, got, want = "Dial", err, wantErr
	case n < 18:
		l := []int{conn, r.Intn(len(p.links) + 2)}[:pick(r, 1, 1, 2)]
		name, got, want = "Break", p.Break(l...), p.breaks(l)
	case n < 22:
		name, got, want = "Shut", p.Shut(conn, end), p.shut(conn, end)
	case n < 50:
		b := text(r)
		name, got, want = "Write", p.Write(conn, end, []byte(b)...), p.write(conn, end, b)
	case n < 75:
		a, err := p.Move(conn, end, most)
		b, wantErr := p.move(conn, end, most)
		if a != b {
			return fmt.Sprint("Move ", conn, end, most, a, b)
		}
		name, got, want = "Move", err, wantErr
	default:
		a, over, err := p.Read(conn, end, most)
		b, wantOver, wantErr := p.reads(conn, end, most)
		if string(a) != b || over != wantOver {
			return fmt.Sprint("Read ", conn, end, most, len(a), len(b), over, wantOver)
		}
		if over {
			counted["over"]++
		}
		name, got, want = "Read", err, wantErr
	}
	counted[fmt.Sprint(name, " ", want)]++
	if got != want {
		return fmt.Sprint(name, " ", conn, end, most, ": the error ", got, ", want ", want)
	}
	return p.holds()
}

// holds holds what a net tells of all its connections.
func (p pair) holds() string {
	if l := p.Conns(); !slices.Equal(l, p.conns()) {
		return fmt.Sprint("Conns ", l, p.conns())
	}
	for i, one := range p.links {
		if p.Port(i+1) != one.port {
			return fmt.Sprint("Port ", i+1, p.Port(i+1), one.port)
		}
		for end := range 2 {
			way, come, err := p.Look(i+1, end)
			from, to := one.halves[end], one.halves[1-end]
			wantWay, wantCome, want := len(from.wrote)-from.moved, to.moved-to.read, api.OK
			if one.broken {
				wantWay, wantCome, want = 0, 0, api.ErrDown
			}
			if way != wantWay || come != wantCome || err != want {
				return fmt.Sprint("Look ", i+1, end, way, come, err, wantWay, wantCome, want)
			}
		}
	}
	return ""
}

// P22.1 to P22.6, P4: nets, and forks of them, do with scripts of any kind what the document tells of them.
func TestModel(t *testing.T) {
	counted := map[string]int{}
	for seed := range 60 {
		r := rand.New(rand.NewSource(int64(seed)))
		pairs := []pair{{stream.New(), &model{open: map[int]bool{}}}}
		for i := range 500 {
			p := pairs[r.Intn(len(pairs))]
			for seed%6 == 5 && len(p.conns()) < api.MaxConns && i == 100 { // some are nearly full
				p.Listen(9)
				p.open[9] = true
				p.Dial(9)
				p.dial(9)
			}
			if wrong := p.step(r, counted); wrong != "" {
				t.Fatalf("seed %d, step %d: %s", seed, i, wrong)
			}
			if r.Intn(200) == 0 {
				pairs = append(pairs, pair{p.Fork(), p.fork()})
			}
		}
	}
	for _, what := range []string{
		"Listen 0", "Listen 2", "Stop 0", "Stop 2", "Dial 0", "Dial 2", "Dial 3", "Dial 51", "Break 0", "Break 4", "Break 51", "Shut 0", "Shut 2", "Shut 4", "Shut 51",
		"Write 0", "Write 2", "Write 3", "Write 4", "Write 51", "Move 0", "Move 2", "Move 4", "Move 51", "Read 0", "Read 2", "Read 4", "Read 51", "over",
	} {
		if counted[what] < 10 {
			t.Errorf("%s: %d times", what, counted[what])
		}
	}
	t.Log(counted)
}
