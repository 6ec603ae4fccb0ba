package command_test

import (
	"math"
	"math/rand"
	"strings"
	"testing"

	"spillway/api"
	"spillway/command"
	"spillway/rules"
)

// P24.1: each command's text.
func TestPrint(t *testing.T) {
	for _, x := range texts {
		if s, err := command.Print(x.Command); s != x.text || err != api.OK {
			t.Errorf("Print(%+v): %s, %v, want %s", x.Command, s, err, x.text)
		}
		if !command.Right(x.Command) {
			t.Errorf("Right(%+v): false", x.Command)
		}
	}
}

// wrong holds that a command is not right, and has no text.
func wrong(t *testing.T, c command.Command) {
	t.Helper()
	if command.Right(c) {
		t.Errorf("Right(%+v)", c)
	}
	if s, err := command.Print(c); s != "" || err != api.ErrForm {
		t.Errorf("Print(%+v): %s, %v", c, s, err)
	}
}

// P24.1: what is not right is not, and Print has ErrForm.
func TestWrong(t *testing.T) {
	for _, k := range []command.Kind{0, 7, 8, 255} {
		wrong(t, command.Command{Kind: k})
	}
	for _, n := range []int{-1, math.MinInt, math.MaxInt, api.MaxKeys + 1} {
		wrong(t, command.Command{Kind: command.Top, K: n})
	}
	for _, n := range []int{-1, math.MinInt, math.MaxInt, api.MaxCount + 1} {
		wrong(t, command.Command{Kind: command.Sample, Load: n})
		wrong(t, command.Command{Kind: command.Sample, Cpu: n})
	}
	for _, n := range []int{-1, 0, 4, math.MinInt, math.MaxInt} {
		wrong(t, command.Command{Kind: command.SetMode, Mode: n})
	}
	for _, s := range []string{" ", "a b", "é", "\x00", "\x7f", strings.Repeat("x", api.MaxName+1)} {
		wrong(t, command.Command{Kind: command.GetMetrics, Resource: s})
	}
	for _, r := range []api.Rules{
		{Flows: []api.Flow{{Resource: "a", Count: 5}}},
		{Flows: []api.Flow{{Resource: "a", Origin: "default", Strategy: 3}}},
		{Flows: []api.Flow{{Resource: "a", Origin: "default", Shape: 4}}},
		{Breaks: []api.Break{{Resource: "a"}}},
		{Breaks: []api.Break{{Resource: "a", Grade: 3, Least: 1, Window: 1000000, Recover: 1000000}}},
		{Hots: []api.Hot{{Resource: "a"}}},
		{Systems: []api.System{{Qps: -2}}},
		{Lists: []api.Authority{{Resource: "a"}}},
		{Systems: make([]api.System, api.MaxRules+1)},
	} {
		wrong(t, command.Command{Kind: command.Push, Rules: r})
	}
}

// P24.1: a field that the kind does not name must be zero, or empty.
func TestNotNamed(t *testing.T) {
	fields := map[string]func(c *command.Command){
		"flows":    func(c *command.Command) { c.Rules.Flows = flowA.Flows },
		"breaks":   func(c *command.Command) { c.Rules.Breaks = make([]api.Break, 1) },
		"hots":     func(c *command.Command) { c.Rules.Hots = make([]api.Hot, 1) },
		"systems":  func(c *command.Command) { c.Rules.Systems = make([]api.System, 1) },
		"lists":    func(c *command.Command) { c.Rules.Lists = make([]api.Authority, 1) },
		"resource": func(c *command.Command) { c.Resource = "a" },
		"k":        func(c *command.Command) { c.K = 1 },
		"mode":     func(c *command.Command) { c.Mode = 1 },
		"load":     func(c *command.Command) { c.Load = 1 },
		"cpu":      func(c *command.Command) { c.Cpu = 1 },
	}
	named := map[command.Kind]string{
		command.Push: " flows breaks hots systems lists ", command.Fetch: "", command.GetMetrics: " resource ",
		command.Top: " k ", command.SetMode: " mode ", command.Sample: " load cpu ",
	}
	for _, x := range texts {
		for name, set := range fields {
			if c := x.Command; !strings.Contains(named[c.Kind], " "+name+" ") {
				set(&c)
				wrong(t, c)
			}
		}
		c := x.Command
		if c.Kind != command.Push {
			c.Rules = api.Rules{Flows: []api.Flow{}, Breaks: []api.Break{}, Hots: []api.Hot{}, Systems: []api.System{}, Lists: []api.Authority{}}
		}
		if s, err := command.Print(c); !command.Right(c) || s != x.text || err != api.OK {
			t.Errorf("with empty lists %+v: right %v, %s, %v", c, command.Right(c), s, err)
		}
	}
}

// P24.1: a right command may have no text: as it is no UTF-8, or too long.
func TestPrintRefused(t *testing.T) {
	noText := api.Rules{Hots: []api.Hot{{Resource: "a", Seconds: 1, Items: []api.Item{{Value: "\xff", Count: 1}}}}}
	var long api.Rules
	for range api.MaxRules {
		long.Flows = append(long.Flows, api.Flow{Resource: strings.Repeat("x", 64), Origin: strings.Repeat("y", 64)})
	}
	both := rules.Join(long, noText)
	for i, x := range []struct {
		r    api.Rules
		want api.Errno
	}{{noText, api.ErrForm}, {long, api.ErrLong}, {both, api.ErrForm}} {
		c := command.Command{Kind: command.Push, Rules: x.r}
		if s, err := command.Print(c); !command.Right(c) || s != "" || err != x.want {
			t.Errorf("%d: right %v, %d bytes, %v, want %v", i, command.Right(c), len(s), err, x.want)
		}
	}
}

// P24.1: the longest text that may be is one, and one byte more is none.
func TestPrintLongest(t *testing.T) {
	var r api.Rules
	for range 240 {
		r.Flows = append(r.Flows, api.Flow{Resource: "x", Origin: strings.Repeat("y", 64)})
	}
	c := command.Command{Kind: command.Push, Rules: r}
	s, err := command.Print(c)
	ok(t, "Print", err)
	left := api.MaxText - len(s)
	for i := range r.Flows {
		more := min(left, 63)
		r.Flows[i].Resource += strings.Repeat("x", more)
		left -= more
	}
	s, err = command.Print(c)
	if len(s) != api.MaxText || err != api.OK || left != 0 {
		t.Fatalf("the longest: %d bytes, %v", len(s), err)
	}
	parses(t, s, c)
	r.Flows[0].Count = 10
	if s, err := command.Print(c); s != "" || err != api.ErrLong || !command.Right(c) {
		t.Errorf("a byte more: %d bytes, %v", len(s), err)
	}
}

// P24.4, E9: Parse of Print is the command; and Print of what Parse takes is a text of the same one.
func TestThereAndBack(t *testing.T) {
	for seed := range 40 {
		r := rand.New(rand.NewSource(int64(seed)))
		for range 100 {
			c := someCommand(r)
			if !command.Right(c) {
				t.Fatalf("Right(%+v): false", c)
			}
			s, err := command.Print(c)
			ok(t, "Print", err)
			parses(t, s, c)
		}
		for range 100 {
			c, err, _ := command.Parse(someText(t, r))
			if err != api.OK {
				continue
			}
			s, err := command.Print(c)
			ok(t, "Print", err)
			parses(t, s, c)
		}
	}
}

// P3: what is handed in stays as it is, and what is answered is the caller's.
func TestCommandsOwn(t *testing.T) {
	r := rules.Copy(flowA)
	r.Flows = append(r.Flows, api.Flow{Resource: "b"})[:1]
	c := command.Command{Kind: command.Push, Rules: r}
	if _, err := command.Print(c); err != api.OK || !rules.Same(r, flowA) || r.Flows[:2][1].Resource != "b" {
		t.Errorf("Print has changed its rules: %+v", r.Flows[:2])
	}
	const text = `{"cmd":"push","rules":{"flow":[{"resource":"a","count":5}]}}`
	one, _, _ := command.Parse(text)
	clear(one.Rules.Flows)
	parses(t, text, command.Command{Kind: command.Push, Rules: flowA})
}
