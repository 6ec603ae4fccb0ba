package rulejson_test

import (
	"math"
	"math/rand"
	"slices"
	"strconv"
	"strings"
	"testing"

	"spillway/api"
	"spillway/json"
	"spillway/rulejson"
	"spillway/rules"
)

// all are rules of each kind that are right, in which each member is another one than what is missing.
func all() api.Rules {
	return api.Rules{
		Flows: []api.Flow{
			{Resource: "a", Origin: "app1", Count: 1 << 40, Strategy: api.Relate, Ref: "b", Shape: api.WarmPace, Warm: 3600, Queue: 3600000000},
			{Resource: "c", Origin: "other", Count: 0, Threads: true},
			{Resource: "d", Origin: "default", Count: 7, Cluster: true, Id: 1 << 40, Fallback: true},
		},
		Breaks: []api.Break{
			{Resource: "a", Grade: api.ErrorCount, Count: 9, Least: 5, Window: 1000000, Recover: 3600000000},
			{Resource: "a", Grade: api.SlowRatio, Count: 1000, Slow: 20, Least: 1, Window: 120000000, Recover: 1000000},
		},
		Hots: []api.Hot{
			{Resource: "a", Index: 7, Count: 3, Seconds: 60, Items: []api.Item{{Value: "vip", Count: 100}, {Value: "", Count: 0}, {Value: "\"\\\x00é", Count: 1}}},
			{Resource: "b", Seconds: 1},
		},
		Systems: []api.System{{Qps: 1, Threads: 2, Rt: 3, Load: 0, Cpu: -1}},
		Lists:   []api.Authority{{Resource: "a", White: true, Origins: []string{"app1", "app2"}}, {Resource: "b", Origins: []string{"x"}}},
	}
}

const allAsText = `{"flow":[` +
	`{"resource":"a","origin":"app1","threads":false,"count":1099511627776,"strategy":"relate","ref":"b","shape":"warmpace","warm":3600,"queue":3600000000,"cluster":false,"id":0,"fallback":false},` +
	`{"resource":"c","origin":"other","threads":true,"count":0,"strategy":"direct","ref":"","shape":"reject","warm":0,"queue":0,"cluster":false,"id":0,"fallback":false},` +
	`{"resource":"d","origin":"default","threads":false,"count":7,"strategy":"direct","ref":"","shape":"reject","warm":0,"queue":0,"cluster":true,"id":1099511627776,"fallback":true}` +
	`],"break":[` +
	`{"resource":"a","grade":"count","count":9,"slow":0,"least":5,"window":1000000,"recover":3600000000},` +
	`{"resource":"a","grade":"slow","count":1000,"slow":20,"least":1,"window":120000000,"recover":1000000}` +
	`],"hot":[` +
	`{"resource":"a","index":7,"count":3,"seconds":60,"items":[{"value":"vip","count":100},{"value":"","count":0},{"value":"\"\\\u0000é","count":1}]},` +
	`{"resource":"b","index":0,"count":0,"seconds":1,"items":[]}` +
	`],"system":[{"qps":1,"threads":2,"rt":3,"load":0,"cpu":-1}],"authority":[` +
	`{"resource":"a","white":true,"origins":["app1","app2"]},{"resource":"b","white":false,"origins":["x"]}]}`

const noneAsText = `{"flow":[],"break":[],"hot":[],"system":[],"authority":[]}`

// read is a JSON text's value.
func read(t *testing.T, s string) api.Value {
	t.Helper()
	v, err, at := json.Parse(s)
	if err != api.OK {
		t.Fatalf("%q: %v at %d", s, err, at)
	}
	return v
}

// fromValue is all that FromValue answers.
func fromValue(v api.Value) found {
	r, err, kind, number := rulejson.FromValue(v)
	return found{r, err, kind, number}
}

// gives holds what FromValue answers against what it should, and so what Decode does, if the value has a text.
func gives(t *testing.T, what string, v api.Value, want found) {
	t.Helper()
	got := fromValue(v)
	if !rules.Same(got.rules, want.rules) || got.err != want.err || got.kind != want.kind || got.number != want.number {
		t.Errorf("%s: %+v, want %+v", what, got, want)
	}
	s, err := json.Print(v)
	if err != api.OK {
		return
	}
	if r, e, at := rulejson.Decode(s); !rules.Same(r, want.rules) || e != want.err || at != 0 {
		t.Errorf("%s: Decode(%s) = %+v, %v, %d, want %+v", what, s, r, e, at, want)
	}
}

// rightRules are rules of any number that are right.
func rightRules(r *rand.Rand) api.Rules {
	var made api.Rules
	for range r.Intn(4) {
		made.Flows = append(made.Flows, rightFlow(r))
	}
	for range r.Intn(3) {
		b := api.Break{Resource: someName(r), Grade: api.Grade(r.Intn(3)), Count: r.Intn(1001), Least: 1 + r.Intn(9), Window: 1000000 + r.Intn(9), Recover: 1000000 + r.Intn(9)}
		if b.Grade == api.SlowRatio {
			b.Slow = 1 + r.Intn(5)
		}
		made.Breaks = append(made.Breaks, b)
	}
	for range r.Intn(3) {
		h := api.Hot{Resource: someName(r), Index: r.Intn(8), Count: r.Intn(9), Seconds: 1 + r.Intn(60)}
		for i := range r.Intn(4) {
			h.Items = append(h.Items, api.Item{Value: someText(r) + strconv.Itoa(i), Count: r.Intn(1 << 40)})
		}
		made.Hots = append(made.Hots, h)
	}
	for range r.Intn(3) {
		made.Systems = append(made.Systems, api.System{Qps: r.Intn(9) - 1, Threads: -1, Rt: r.Intn(1 << 40), Load: r.Intn(3) - 1, Cpu: 1 << 40})
	}
	for range r.Intn(3) {
		a := api.Authority{Resource: someName(r), White: r.Intn(2) == 1}
		for i := range 1 + r.Intn(3) {
			a.Origins = append(a.Origins, someName(r)+strconv.Itoa(i))
		}
		made.Lists = append(made.Lists, a)
	}
	return made
}

func rightFlow(r *rand.Rand) api.Flow {
	f := api.Flow{Resource: someName(r), Origin: []string{"default", "other", someName(r)}[r.Intn(3)], Count: 1 + r.Intn(1<<40)}
	switch r.Intn(3) {
	case 0:
		f.Threads = true
	case 1:
		f.Cluster, f.Id, f.Fallback = true, 1+r.Intn(1<<40), r.Intn(2) == 1
	case 2:
		f.Shape = api.Shape(r.Intn(4))
		if f.Shape == api.WarmUp || f.Shape == api.WarmPace {
			f.Warm = 1 + r.Intn(3600)
		}
		if f.Shape == api.Pace || f.Shape == api.WarmPace {
			f.Queue = r.Intn(3600000001)
		}
	}
	if !f.Cluster && r.Intn(2) == 1 {
		f.Strategy, f.Ref = api.Strategy(1+r.Intn(2)), someName(r)
	}
	return f
}

func someName(r *rand.Rand) string {
	b := make([]byte, 1+r.Intn(4))
	for i := range b {
		b[i] = byte(33 + r.Intn(94))
	}
	return string(b)
}

func someText(r *rand.Rand) string {
	var b strings.Builder
	for range r.Intn(4) {
		b.WriteString([]string{"a", "é", "\x00", "\x7f", `"`, `\`, "\n", "😀", "/"}[r.Intn(9)])
	}
	return b.String()
}

// shuffled is a value in which the members of each object stand in any order, and those that say what is missing are left out at times.
func shuffled(r *rand.Rand, v api.Value) api.Value {
	made := api.Value{Kind: v.Kind, Text: v.Text}
	for _, i := range r.Perm(len(v.Names)) {
		made.Names = append(made.Names, v.Names[i])
		made.List = append(made.List, shuffled(r, v.List[i]))
	}
	if v.Kind == api.Array {
		for _, part := range v.List {
			made.List = append(made.List, shuffled(r, part))
		}
	}
	return made
}

// spoilt is a value of which one part, anywhere, is another one: one of others, twice, of another name, or not there.
func spoilt(r *rand.Rand, v api.Value, others []api.Value) api.Value {
	v.List, v.Names = slices.Clone(v.List), slices.Clone(v.Names)
	if len(v.List) == 0 || r.Intn(6) == 0 {
		return others[r.Intn(len(others))]
	}
	i := r.Intn(len(v.List))
	switch {
	case v.Kind == api.Object && r.Intn(5) == 0:
		v.Names = append(v.Names, v.Names[i])
		v.List = append(v.List, v.List[r.Intn(len(v.List))])
	case v.Kind == api.Object && r.Intn(5) == 0:
		v.Names[i] = []string{"", "count", "Count", "x", "flow"}[r.Intn(5)]
	case v.Kind == api.Object && r.Intn(5) == 0:
		v.Names, v.List = slices.Delete(v.Names, i, i+1), slices.Delete(v.List, i, i+1)
	default:
		v.List[i] = spoilt(r, v.List[i], others)
	}
	return v
}

// others are values of each kind, those that are read as nothing among them.
func others() []api.Value {
	l := []api.Value{
		{Kind: api.Null}, {Kind: api.True}, {Kind: api.False}, {Kind: api.Array}, {Kind: api.Object},
		{Kind: api.Array, List: []api.Value{json.OfInt(1)}}, {Kind: api.Array, List: []api.Value{{Kind: api.Object}}},
	}
	for _, s := range []string{"", "a", "a b", "direct", "chain", "slow", "pace", "1", "\xff"} {
		l = append(l, json.OfText(s))
	}
	for _, s := range append(slices.Clone(notDecimal), "0", "-1", "7", "-9223372036854775808", strconv.Itoa(math.MaxInt)) {
		l = append(l, api.Value{Kind: api.Number, Text: s})
	}
	return l
}

// notDecimal are texts of numbers that are not read.
var notDecimal = []string{
	"1.0", "1e0", "1E2", "-0", "0.0", "1.5", "1e400", "-0.0", "10e-1", "0e0",
	"9223372036854775808", "-9223372036854775809", "123456789012345678901234567890", strings.Repeat("9", 70000),
	// These are no numbers of JSON.
	"", "01", "-01", "+1", "00", "-", " 1", "1 ", "1_0", "0x1", "x", "١", "--1",
}
