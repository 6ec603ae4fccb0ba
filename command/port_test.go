package command_test

import (
	"bytes"
	"math/rand"
	"strings"
	"testing"

	"spillway/api"
	"spillway/command"
)

func fetched() command.Told { return command.Told{Command: command.Command{Kind: command.Fetch}} }

func topped(k int) command.Told {
	return command.Told{Command: command.Command{Kind: command.Top, K: k}}
}

func failed(err api.Errno, at int) command.Told { return command.Told{Errno: err, At: at} }

// puts holds what a port tells by bytes.
func puts(t *testing.T, p *command.Port, s string, want ...command.Told) {
	t.Helper()
	if l, err := p.Put([]byte(s)...); !sameTold(l, want) || err != api.OK {
		t.Errorf("Put(%.100q): %+v, %v, want %+v", s, l, err, want)
	}
}

// stands holds what a port tells of itself.
func stands(t *testing.T, p *command.Port, left int, broken bool) {
	t.Helper()
	if p.Left() != left || p.Broken() != broken {
		t.Errorf("left %d, broken %v, want %d, %v", p.Left(), p.Broken(), left, broken)
	}
}

// P24.2: lines are told as soon as they are whole, in order; what is no command is an error with its place in the line.
func TestPut(t *testing.T) {
	p := command.NewPort()
	stands(t, p, 0, false)
	puts(t, p, "")
	puts(t, p, `{"cmd":"fe`)
	stands(t, p, 10, false)
	puts(t, p, `tch"}`)
	stands(t, p, 15, false)
	puts(t, p, "\n", fetched())
	stands(t, p, 0, false)
	puts(t, p, "{\"cmd\":\"top\",\"k\":1}\n{\"cmd\":\"top\",\"k\":-1}\n  x\n{\"cmd\":\"fetch\"}\n[]\n{\"cmd\":\n{\"cmd\"",
		topped(1), failed(api.ErrField, 0), failed(api.ErrChar, 2), fetched(), failed(api.ErrForm, 0), failed(api.ErrEnd, 7))
	stands(t, p, 6, false)
	puts(t, p, ":\"fetch\"}\n", fetched())
	stands(t, p, 0, false)
}

// P24.2: a byte 13 ahead of the line feed is none of the line; any other is.
func TestReturn(t *testing.T) {
	p := command.NewPort()
	puts(t, p, "{\"cmd\":\r\n{\"cmd\":\r\r\n\r{\"cmd\":\"fetch\"}\r\nx\r\n", failed(api.ErrEnd, 7), failed(api.ErrEnd, 8), fetched(), failed(api.ErrChar, 0))
	puts(t, p, "{\"cmd\":\r")
	stands(t, p, 8, false)
	puts(t, p, "\n", failed(api.ErrEnd, 7))
	puts(t, p, "{\"cmd\":\"fetch\"}\r")
	puts(t, p, " ")
	puts(t, p, "\r\n", fetched())
	stands(t, p, 0, false)
}

// P24.2: an empty line is passed over, with a byte 13 or without; one of blanks is not empty.
func TestEmptyLine(t *testing.T) {
	p := command.NewPort()
	puts(t, p, "\n")
	puts(t, p, "\n\r\n\n\r\n")
	puts(t, p, "\r")
	stands(t, p, 1, false)
	puts(t, p, "\n")
	stands(t, p, 0, false)
	puts(t, p, "\n \n\n\t\r\n\r\r\n\n", failed(api.ErrEnd, 1), failed(api.ErrEnd, 1), failed(api.ErrEnd, 1))
}

// P24.2, P24.6: a line of MaxText bytes is one, the byte 13 counted; one byte more breaks the port, at once.
func TestLongLine(t *testing.T) {
	blanks := strings.Repeat(" ", api.MaxText-15)
	const fetch = `{"cmd":"fetch"}`
	for _, line := range []string{blanks + fetch, fetch + blanks, blanks[1:] + fetch + "\r"} {
		p := command.NewPort()
		puts(t, p, line)
		stands(t, p, api.MaxText, false)
		puts(t, p, "\n", fetched())
		stands(t, p, 0, false)
		puts(t, p, "\n"+line+"\n"+line+"\n\n"+line, fetched(), fetched())
		stands(t, p, api.MaxText, false)
		puts(t, p.Fork(), "\n", fetched())
		for _, more := range []string{"x", "\r", "x\n", "\r\n", "\x00" + fetch + "\n"} {
			breaks(t, p.Fork(), more)
			breaks(t, command.NewPort(), line+more)
			breaks(t, command.NewPort(), fetch+"\n[\n\n"+line+more, fetched(), failed(api.ErrEnd, 1))
		}
	}
}

// breaks holds that a port breaks by bytes, and tells and takes nothing from then on.
func breaks(t *testing.T, p *command.Port, s string, want ...command.Told) {
	t.Helper()
	if l, err := p.Put([]byte(s)...); !sameTold(l, want) || err != api.ErrLong {
		t.Errorf("Put of %d bytes: %+v, %v, want ErrLong beside %+v", len(s), l, err, want)
	}
	stands(t, p, 0, true)
	for _, more := range []string{"", "\n", "x", "{\"cmd\":\"fetch\"}\n", "\r\n\n", s} {
		if l, err := p.Put([]byte(more)...); len(l) != 0 || err != api.ErrDown {
			t.Errorf("Put of %d bytes to a broken one: %+v, %v", len(more), l, err)
		}
		stands(t, p, 0, true)
		stands(t, p.Fork(), 0, true)
	}
	if _, err := p.Fork().Put(); err != api.ErrDown {
		t.Errorf("Put to the fork of a broken one: %v", err)
	}
}

// P24.2, P24.6: byte by byte it gathers as far as MaxText, and never more.
func TestGathers(t *testing.T) {
	p := command.NewPort()
	for i := range api.MaxText {
		puts(t, p, "[")
		if p.Left() != i+1 {
			t.Fatalf("behind %d bytes: left %d", i+1, p.Left())
		}
	}
	puts(t, p.Fork(), "\n", failed(api.ErrDeep, 64))
	breaks(t, p, "[")
}

// P24.2, P1: nil has nothing.
func TestNilPort(t *testing.T) {
	var none *command.Port
	if l, err := none.Put('\n'); l != nil || err != api.ErrNil {
		t.Errorf("Put of nil: %v, %v", l, err)
	}
	if none.Left() != 0 || none.Broken() || none.Fork() != nil {
		t.Error("of nil there is something")
	}
}

// P24.2, P4: what becomes of the one changes nothing of the other one.
func TestForkPort(t *testing.T) {
	for _, use := range []string{"", "\n", "x\n", "\"fetch\"}\n", "xxxxxxxxxx", "\"top\",\"k\":5}", strings.Repeat("x", api.MaxText)} {
		for _, turned := range []bool{false, true} {
			p := command.NewPort()
			puts(t, p, "{\"cmd\"")
			f := p.Fork()
			if turned {
				p, f = f, p
			}
			f.Put([]byte(use)...)
			stands(t, p, 6, false)
			puts(t, p, ":")
			f.Put([]byte(use)...)
			puts(t, p, "\"fetch\"}\n", fetched())
		}
	}
}

// P3: the bytes that are handed in stay as they are, and are not kept.
func TestPutOwn(t *testing.T) {
	room := []byte("{\"cmd\":\"fetch\"}\r\n{\"cmd\":xxxxxxxxx")
	b := room[:24]
	was := bytes.Clone(room)
	p := command.NewPort()
	if l, err := p.Put(b...); !sameTold(l, []command.Told{fetched()}) || err != api.OK {
		t.Errorf("Put: %+v, %v", l, err)
	}
	if !bytes.Equal(room, was) {
		t.Errorf("Put has changed its bytes: %q", room)
	}
	clear(room)
	puts(t, p, "\"fetch\"}\n", fetched())
}

// someLines are lines of any kind, the last one perhaps not whole.
func someLines(t *testing.T, r *rand.Rand) []string {
	t.Helper()
	var l []string
	for range r.Intn(12) {
		anyBytes := make([]byte, r.Intn(20))
		r.Read(anyBytes)
		l = append(l, pick(r, someText(t, r), someText(t, r), "", "\r", "\r\r", " ", string(anyBytes)))
	}
	if r.Intn(6) == 0 {
		l = append(l, strings.Repeat(pick(r, "x", " ", "["), api.MaxText+r.Intn(3)-1), someText(t, r))
	}
	return l
}

// tell is what is to be told of lines, each for itself; and whether they break the port.
func tell(lines []string) ([]command.Told, bool) {
	var l []command.Told
	for _, s := range lines {
		for _, line := range strings.SplitAfter(s+"\n", "\n") {
			line, isWhole := strings.CutSuffix(line, "\n")
			if len(line) > api.MaxText {
				return l, true
			}
			if line = strings.TrimSuffix(line, "\r"); line == "" || !isWhole {
				continue
			}
			c, err, at := command.Parse(line)
			l = append(l, command.Told{Command: c, Errno: err, At: at})
		}
	}
	return l, false
}

// P24.5, E8: whatever the cuts: the same lines, the same told; and of each line what it is told of alone.
func TestCuts(t *testing.T) {
	broken := 0
	for seed := range 400 {
		r := rand.New(rand.NewSource(int64(seed)))
		lines := someLines(t, r)
		want, breaks := tell(lines)
		b := []byte(strings.Join(append(lines, ""), "\n"))
		for _, most := range []int{1, 3, 40, len(b) + 1} {
			p := command.NewPort()
			var got []command.Told
			down := false
			for rest := b; len(rest) > 0; {
				n := min(len(rest), 1+r.Intn(most))
				l, err := p.Put(rest[:n]...)
				rest = rest[n:]
				got = append(got, l...)
				if was := down; was != (err == api.ErrDown) || p.Broken() != (err != api.OK) || p.Left() > api.MaxText {
					t.Fatalf("seed %d: Put: %v, broken %v ahead, %v behind", seed, err, was, p.Broken())
				}
				down = p.Broken()
			}
			if !sameTold(got, want) || down != breaks {
				t.Fatalf("seed %d, cuts of %d: %+v, broken %v, want %+v, %v", seed, most, got, down, want, breaks)
			}
		}
		if breaks {
			broken++
		}
	}
	if broken < 10 {
		t.Errorf("%d were broken", broken)
	}
}
