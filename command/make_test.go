package command_test

import (
	"math"
	"math/rand"
	"slices"
	"strconv"
	"strings"
	"testing"

	"spillway/api"
	"spillway/command"
	"spillway/json"
	"spillway/rules"
)

// flowA is the rules of chapter 24's example.
var flowA = api.Rules{Flows: []api.Flow{{Resource: "a", Origin: "default", Count: 5}}}

const (
	noRules    = `{"flow":[],"break":[],"hot":[],"system":[],"authority":[]}`
	flowAsText = `{"flow":[{"resource":"a","origin":"default","threads":false,"count":5,"strategy":"direct","ref":"","shape":"reject","warm":0,"queue":0,"cluster":false,"id":0,"fallback":false}],"break":[],"hot":[],"system":[],"authority":[]}`
)

// texts are commands of each kind, with their edges, and their texts.
var texts = []struct {
	text string
	command.Command
}{
	{`{"cmd":"push","rules":` + noRules + `}`, command.Command{Kind: command.Push}},
	{`{"cmd":"push","rules":` + flowAsText + `}`, command.Command{Kind: command.Push, Rules: flowA}},
	{`{"cmd":"fetch"}`, command.Command{Kind: command.Fetch}},
	{`{"cmd":"metrics"}`, command.Command{Kind: command.GetMetrics}},
	{`{"cmd":"metrics","resource":"a"}`, command.Command{Kind: command.GetMetrics, Resource: "a"}},
	{`{"cmd":"metrics","resource":"\"\\!~"}`, command.Command{Kind: command.GetMetrics, Resource: `"\!~`}},
	{`{"cmd":"metrics","resource":"` + strings.Repeat("x", api.MaxName) + `"}`, command.Command{Kind: command.GetMetrics, Resource: strings.Repeat("x", api.MaxName)}},
	{`{"cmd":"top","k":0}`, command.Command{Kind: command.Top}},
	{`{"cmd":"top","k":7}`, command.Command{Kind: command.Top, K: 7}},
	{`{"cmd":"top","k":4096}`, command.Command{Kind: command.Top, K: 4096}},
	{`{"cmd":"mode","mode":"local"}`, command.Command{Kind: command.SetMode, Mode: 1}},
	{`{"cmd":"mode","mode":"client"}`, command.Command{Kind: command.SetMode, Mode: 2}},
	{`{"cmd":"mode","mode":"server"}`, command.Command{Kind: command.SetMode, Mode: 3}},
	{`{"cmd":"sample","load":0,"cpu":0}`, command.Command{Kind: command.Sample}},
	{`{"cmd":"sample","load":1500,"cpu":900}`, command.Command{Kind: command.Sample, Load: 1500, Cpu: 900}},
	{`{"cmd":"sample","load":1099511627776,"cpu":1099511627776}`, command.Command{Kind: command.Sample, Load: 1 << 40, Cpu: 1 << 40}},
}

func ok(t *testing.T, what string, err api.Errno) {
	t.Helper()
	if err != api.OK {
		t.Fatalf("%s: %v", what, err)
	}
}

// same tells whether two commands are; a list that is nil is an empty one.
func same(a, b command.Command) bool {
	return a.Kind == b.Kind && rules.Same(a.Rules, b.Rules) && a.Resource == b.Resource && a.K == b.K && a.Mode == b.Mode && a.Load == b.Load && a.Cpu == b.Cpu
}

func sameTold(a, b []command.Told) bool {
	return slices.EqualFunc(a, b, func(x, y command.Told) bool { return same(x.Command, y.Command) && x.Errno == y.Errno && x.At == y.At })
}

// parses holds that a text is a command.
func parses(t *testing.T, s string, want command.Command) {
	t.Helper()
	c, err, at := command.Parse(s)
	if !same(c, want) || err != api.OK || at != 0 {
		t.Errorf("Parse(%.200q): %+v, %v, %d, want %+v", s, c, err, at, want)
	}
}

// fails holds the error and the place of a text that is none.
func fails(t *testing.T, s string, want api.Errno, place int) {
	t.Helper()
	c, err, at := command.Parse(s)
	if !same(c, command.Command{}) || err != want || at != place {
		t.Errorf("Parse(%.200q): %+v, %v, %d, want %v, %d", s, c, err, at, want, place)
	}
}

func pick[T any](r *rand.Rand, l ...T) T { return l[r.Intn(len(l))] }

func someName(r *rand.Rand) string {
	b := make([]byte, pick(r, 1, 1+r.Intn(5), api.MaxName))
	for i := range b {
		b[i] = byte(33 + r.Intn(94))
	}
	return string(b)
}

// someRules are right.
func someRules(r *rand.Rand) api.Rules {
	var made api.Rules
	for range r.Intn(3) {
		made.Flows = append(made.Flows, api.Flow{Resource: someName(r), Origin: pick(r, "default", "other", "app1"), Count: r.Intn(1 << 40)})
	}
	for range r.Intn(2) {
		made.Breaks = append(made.Breaks, api.Break{Resource: someName(r), Grade: api.ErrorRatio, Count: r.Intn(1001), Least: 1 + r.Intn(9), Window: 1000000, Recover: 1000000 + r.Intn(9)})
	}
	for range r.Intn(2) {
		h := api.Hot{Resource: someName(r), Index: r.Intn(8), Count: r.Intn(9), Seconds: 1 + r.Intn(60)}
		for i := range r.Intn(3) {
			h.Items = append(h.Items, api.Item{Value: pick(r, "", "vip", "é", "\n\"\x00") + strconv.Itoa(i), Count: r.Intn(1 << 40)})
		}
		made.Hots = append(made.Hots, h)
	}
	for range r.Intn(2) {
		made.Systems = append(made.Systems, api.System{Qps: r.Intn(9) - 1, Threads: -1, Rt: r.Intn(1 << 40), Load: -1, Cpu: 1 << 40})
	}
	for range r.Intn(2) {
		made.Lists = append(made.Lists, api.Authority{Resource: someName(r), White: r.Intn(2) == 1, Origins: []string{"app1", "app2"}})
	}
	return made
}

// someCommand is right.
func someCommand(r *rand.Rand) command.Command {
	c := command.Command{Kind: command.Kind(1 + r.Intn(6))}
	switch c.Kind {
	case command.Push:
		c.Rules = someRules(r)
	case command.GetMetrics:
		c.Resource = pick(r, "", someName(r))
	case command.Top:
		c.K = pick(r, 0, r.Intn(api.MaxKeys), api.MaxKeys)
	case command.SetMode:
		c.Mode = 1 + r.Intn(3)
	case command.Sample:
		c.Load, c.Cpu = pick(r, 0, r.Intn(9), api.MaxCount), pick(r, 0, r.Intn(9), api.MaxCount)
	}
	return c
}

// someText is that of a command, or of nearly one, with members in any order and blanks.
func someText(t *testing.T, r *rand.Rand) string {
	t.Helper()
	s, err := command.Print(someCommand(r))
	ok(t, "Print", err)
	v, err, _ := json.Parse(s)
	ok(t, "Parse", err)
	names, l := []string{}, []api.Value{}
	for _, i := range r.Perm(len(v.Names)) {
		names, l = append(names, v.Names[i]), append(l, v.List[i])
	}
	i := r.Intn(len(l))
	switch r.Intn(12) {
	case 0:
		l[i] = pick(r, json.OfInt(1), json.OfText("top"), json.OfText(""), api.Value{Kind: api.Null}, json.OfInt(-1), json.OfInt(math.MaxInt), api.Value{Kind: api.Object})
	case 1:
		names[i] = pick(r, "", "cmd", "k", "x", "resource")
	case 2:
		names, l = append(names, names[i]), append(l, l[i])
	case 3:
		names, l = slices.Delete(names, i, i+1), slices.Delete(l, i, i+1)
	}
	s, err = json.Print(api.Value{Kind: api.Object, Names: names, List: l})
	ok(t, "Print", err)
	if r.Intn(12) == 0 {
		s = s[:r.Intn(len(s))]
	}
	return pick(r, "", "", " ", "\t ") + s + pick(r, "", "", "", "", " ", "\r ", "x")
}
