package rulejson_test

import (
	"math"
	"math/rand"
	"reflect"
	"slices"
	"strconv"
	"strings"
	"testing"

	"spillway/api"
	"spillway/json"
	"spillway/rulejson"
	"spillway/rules"
)

// P9.1, P9.2: rules as a value, all members in their order.
func TestToValue(t *testing.T) {
	tests := []struct {
		name string
		r    api.Rules
		want string
	}{
		{"none", api.Rules{}, noneAsText},
		{"lists without parts", api.Rules{Flows: []api.Flow{}, Breaks: []api.Break{}, Hots: []api.Hot{}, Systems: []api.System{}, Lists: []api.Authority{}}, noneAsText},
		{"all", all(), allAsText},
		{"one of a kind", api.Rules{Systems: []api.System{{Qps: -1, Threads: -1, Rt: -1, Load: -1, Cpu: -1}}}, strings.Replace(noneAsText, `"system":[]`, `"system":[{"qps":-1,"threads":-1,"rt":-1,"load":-1,"cpu":-1}]`, 1)},
	}
	for _, x := range tests {
		if got := rulejson.ToValue(x.r); !json.Equal(got, read(t, x.want)) || !json.Right(got) {
			t.Errorf("%s: ToValue = %+v, want %s", x.name, got, x.want)
		}
		if s, err := rulejson.Encode(x.r); s != x.want || err != api.OK {
			t.Errorf("%s: Encode = %s, %v, want %s", x.name, s, err, x.want)
		}
	}
}

// P9.1: of a Strategy, Shape or Grade the word, and the first one of what is none.
func TestToValueWords(t *testing.T) {
	for i := range 256 {
		word := func(words ...string) string {
			if i < len(words) {
				return words[i]
			}
			return words[0]
		}
		v := rulejson.ToValue(api.Rules{
			Flows:  []api.Flow{{Strategy: api.Strategy(i)}, {Shape: api.Shape(i)}},
			Breaks: []api.Break{{Grade: api.Grade(i)}},
		})
		flows, _ := json.Get(v, "flow")
		breaks, _ := json.Get(v, "break")
		strategy, _ := json.Get(flows.List[0], "strategy")
		shape, _ := json.Get(flows.List[1], "shape")
		grade, _ := json.Get(breaks.List[0], "grade")
		got := []string{strategy.Text, shape.Text, grade.Text}
		want := []string{word("direct", "relate", "chain"), word("reject", "warmup", "pace", "warmpace"), word("slow", "errors", "count")}
		if !slices.Equal(got, want) || strategy.Kind != api.String || shape.Kind != api.String || grade.Kind != api.String {
			t.Errorf("%d: %q, want %q", i, got, want)
		}
	}
}

// P9.1: the value of rules that are not right says what they say.
func TestToValueNotRight(t *testing.T) {
	r := api.Rules{
		Flows:   []api.Flow{{Resource: "a b", Origin: "", Threads: true, Count: math.MinInt, Ref: "é", Warm: -1, Queue: math.MaxInt, Cluster: true, Id: -5, Fallback: true}},
		Breaks:  []api.Break{{Grade: api.ErrorRatio, Count: -1, Slow: -2, Least: -3, Window: -4, Recover: -5}},
		Hots:    []api.Hot{{Index: -1, Items: []api.Item{{Value: "\xff", Count: -1}, {Value: "\xff", Count: -1}}}},
		Systems: []api.System{{Qps: -7}},
		Lists:   []api.Authority{{Origins: []string{"", "\xc3"}}},
	}
	want := `{"flow":[{"resource":"a b","origin":"","threads":true,"count":-9223372036854775808,"strategy":"direct","ref":"é","shape":"reject","warm":-1,"queue":9223372036854775807,"cluster":true,"id":-5,"fallback":true}],` +
		`"break":[{"resource":"","grade":"errors","count":-1,"slow":-2,"least":-3,"window":-4,"recover":-5}],` +
		`"hot":[{"resource":"","index":-1,"count":0,"seconds":0,"items":[{"value":"X","count":-1},{"value":"X","count":-1}]}],` +
		`"system":[{"qps":-7,"threads":0,"rt":0,"load":0,"cpu":0}],"authority":[{"resource":"","white":false,"origins":["","Y"]}]}`
	v := read(t, want)
	items, origins := v.List[2].List[0].List[4].List, v.List[4].List[0].List[2].List
	items[0].List[0].Text, items[1].List[0].Text, origins[1].Text = "\xff", "\xff", "\xc3"
	if got := rulejson.ToValue(r); !json.Equal(got, v) {
		t.Errorf("%+v, want %+v", got, v)
	}
	many := rulejson.ToValue(api.Rules{Lists: make([]api.Authority, 300)})
	if got := many.List[4]; len(got.List) != 300 || got.List[299].Kind != api.Object {
		t.Errorf("of 300 rules there are %d", len(got.List))
	}
}

// P9.2: Encode's errors: of rules that are not right, ahead of what cannot be printed, ahead of what is too long.
func TestEncodeErrors(t *testing.T) {
	noText := api.Hot{Resource: "a", Seconds: 1, Items: []api.Item{{Value: "\xff"}}}
	tests := []struct {
		name string
		r    api.Rules
		err  api.Errno
	}{
		{"a flow without a name", api.Rules{Flows: []api.Flow{{}}}, api.ErrName},
		{"a break", api.Rules{Breaks: []api.Break{{Resource: "a"}}}, api.ErrBreak},
		{"a break ahead of a list", api.Rules{Breaks: []api.Break{{Resource: "a"}}, Lists: []api.Authority{{}}}, api.ErrBreak},
		{"too many", api.Rules{Systems: make([]api.System, api.MaxRules+1)}, api.ErrLong},
		{"a Strategy that is none", api.Rules{Flows: []api.Flow{{Resource: "a", Origin: "b", Strategy: 3}}}, api.ErrFlow},
		{"no UTF-8", api.Rules{Hots: []api.Hot{noText}}, api.ErrForm},
		{"no UTF-8, and a list that is not right", api.Rules{Hots: []api.Hot{noText}, Lists: []api.Authority{{Resource: "a"}}}, api.ErrList},
	}
	for _, x := range tests {
		if s, err := rulejson.Encode(x.r); s != "" || err != x.err {
			t.Errorf("%s: %q, %v, want %v", x.name, s, err, x.err)
		}
	}
}

// long are rules that are right, of a text of so many bytes, from 60000 to 67000.
func long(t *testing.T, size int) api.Rules {
	t.Helper()
	var r api.Rules
	for i := range 31 {
		a := api.Authority{Resource: "a"}
		for j := range api.MaxItems {
			name := strconv.Itoa(i) + "-" + strconv.Itoa(j) + "-"
			a.Origins = append(a.Origins, name+strings.Repeat("x", api.MaxName-len(name)))
		}
		r.Lists = append(r.Lists, a)
	}
	s, err := json.Print(rulejson.ToValue(api.Rules{Lists: r.Lists[:1]}))
	if err != api.OK {
		t.Fatal(err)
	}
	one := len(s) - len(noneAsText)
	spare := len(noneAsText) + 31*(one+1) - 1 - size
	for _, a := range r.Lists {
		for j, name := range a.Origins {
			cut := max(0, min(spare, 50))
			a.Origins[j] = name[:len(name)-cut]
			spare -= cut
		}
	}
	return r
}

// P9.2: a text of MaxText bytes is told, and taken again; one of a byte more has ErrLong.
func TestEncodeLong(t *testing.T) {
	r := long(t, api.MaxText)
	s, err := rulejson.Encode(r)
	if len(s) != api.MaxText || err != api.OK {
		t.Fatalf("%d bytes, %v", len(s), err)
	}
	if got, err, _ := rulejson.Decode(s); err != api.OK || !rules.Same(got, r) {
		t.Errorf("Decode: %v", err)
	}
	if s, err := rulejson.Encode(long(t, api.MaxText+1)); s != "" || err != api.ErrLong {
		t.Errorf("of a byte more: %d bytes, %v", len(s), err)
	}
}

// P9.2: so it is of rules that Decode took from a shorter text, which leaves members out.
func TestEncodeLongOfShort(t *testing.T) {
	each := func(s string) string { return strings.Repeat(s+",", 255) + s }
	r, err, _ := rulejson.Decode(`{"flow":[` + each(`{"resource":"a"}`) + `],"break":[` + each(`{"resource":"a","slow":1,"least":1,"window":1000000,"recover":1000000}`) + `]}`)
	if err != api.OK || len(r.Flows) != 256 || len(r.Breaks) != 256 {
		t.Fatal(err)
	}
	if s, err := rulejson.Encode(r); s != "" || err != api.ErrLong {
		t.Errorf("%d bytes, %v", len(s), err)
	}
}

// P9.2: Decode has Parse's error and its place; what is no rules has the place 0.
func TestDecodeErrors(t *testing.T) {
	tests := []struct {
		s   string
		err api.Errno
		at  int
	}{
		{"", api.ErrEnd, 0},
		{`{"flow":[}`, api.ErrChar, 9},
		{`{"flow":[{"resource":"a","count":01}]}`, api.ErrNumber, 34},
		{`{"flow":[{"resource":"a\x"}]}`, api.ErrText, 24},
		{`{"flow":[]} {`, api.ErrMore, 12},
		{`{"nothing":[],`, api.ErrEnd, 14},
		{strings.Repeat("[", 65), api.ErrDeep, 64},
		{strings.Repeat(" ", api.MaxText+1), api.ErrLong, api.MaxText},
		{noneAsText + strings.Repeat(" ", api.MaxText), api.ErrLong, api.MaxText},
		{"null", api.ErrField, 0},
		{"  [ ]", api.ErrField, 0},
		{`{"flows":[]}`, api.ErrField, 0},
		{`{"flow":[{"resource":"a","cuont":5}]}`, api.ErrField, 0},
		{`{"flow":[{"resource":"a","count":5.0}]}`, api.ErrNumber, 0},
		{`{"flow":[{"count":5}]}`, api.ErrName, 0},
		{`{"flow":[{"resource":"a","count":-1}]}`, api.ErrFlow, 0},
		{`{"break":[{"resource":"a"}]}`, api.ErrBreak, 0},
		{`{"hot":[{"resource":"a"}]}`, api.ErrHot, 0},
		{`{"system":[{"qps":-2}]}`, api.ErrSystem, 0},
		{`{"authority":[{"resource":"a"}]}`, api.ErrList, 0},
		{`{"system":[` + strings.Repeat("{},", 256) + `{}]}`, api.ErrLong, 0},
	}
	for _, x := range tests {
		if r, err, at := rulejson.Decode(x.s); !reflect.DeepEqual(r, api.Rules{}) || err != x.err || at != x.at {
			t.Errorf("Decode(%.60q) = %+v, %v, %d, want %v, %d", x.s, r, err, at, x.err, x.at)
		}
	}
}

// P9.2, the examples: what is missing is as the document says.
func TestDecode(t *testing.T) {
	tests := []struct {
		s    string
		want api.Rules
	}{
		{`{"flow":[{"resource":"a","count":5}]}`, api.Rules{Flows: []api.Flow{{Resource: "a", Origin: "default", Count: 5}}}},
		{"{}", api.Rules{}},
		{noneAsText, api.Rules{}},
		{` { "system" : [ { } , {"rt":0} ] } `, api.Rules{Systems: []api.System{{Qps: -1, Threads: -1, Rt: -1, Load: -1, Cpu: -1}, {Qps: -1, Threads: -1, Load: -1, Cpu: -1}}}},
		{`{"flow":[{"resource":"a"}],"authority":[{"origins":["b"],"resource":"a"}],"hot":[{"seconds":1,"resource":"a","items":[{},{"value":"b"}]}]}`,
			api.Rules{
				Flows: []api.Flow{{Resource: "a", Origin: "default"}},
				Hots:  []api.Hot{{Resource: "a", Seconds: 1, Items: []api.Item{{}, {Value: "b"}}}},
				Lists: []api.Authority{{Resource: "a", Origins: []string{"b"}}},
			}},
		{`{"break":[{"resource":"a","slow":1,"least":1,"window":1000000,"recover":1000000}]}`, api.Rules{Breaks: []api.Break{{Resource: "a", Slow: 1, Least: 1, Window: 1000000, Recover: 1000000}}}},
		{`{"\u0066low":[{"resource":"\u0061","strat\u0065gy":"dir\u0065ct"}]}`, api.Rules{Flows: []api.Flow{{Resource: "a", Origin: "default"}}}},
		{allAsText, all()},
	}
	for _, x := range tests {
		if r, err, at := rulejson.Decode(x.s); !rules.Same(r, x.want) || err != api.OK || at != 0 {
			t.Errorf("Decode(%s) = %+v, %v, %d, want %+v", x.s, r, err, at, x.want)
		}
		gives(t, x.s, read(t, x.s), found{rules: x.want})
	}
}

// P9.3 (E9): Decode of Encode is the rules, and Encode of what Decode takes is taken as the same, in whatever order it stood.
func TestThereAndBack(t *testing.T) {
	r := rand.New(rand.NewSource(9))
	for range 4000 {
		made := rightRules(r)
		s, err := rulejson.Encode(made)
		if err != api.OK {
			t.Fatalf("%+v: %v", made, err)
		}
		if got, err, at := rulejson.Decode(s); !rules.Same(got, made) || err != api.OK || at != 0 {
			t.Fatalf("%s: %+v, %v, %d, want %+v", s, got, err, at, made)
		}
		other, err := json.Print(shuffled(r, rulejson.ToValue(made)))
		if err != api.OK {
			t.Fatal(err)
		}
		got, err, _ := rulejson.Decode(other)
		if again, e := rulejson.Encode(got); err != api.OK || e != api.OK || again != s {
			t.Fatalf("%s: %v, %s, %v, want %s", other, err, again, e, s)
		}
	}
}

// P9.3: as many rules of each kind as may be.
func TestMostRules(t *testing.T) {
	text := `{"system":[` + strings.Repeat("{},", 255) + `{}],"flow":[` + strings.Repeat(`{"resource":"a"},`, 255) + `{"resource":"b"}]}`
	got, err, _ := rulejson.Decode(text)
	if err != api.OK || len(got.Systems) != 256 || len(got.Flows) != 256 || got.Flows[255].Resource != "b" {
		t.Fatalf("%v: %d, %d", err, len(got.Systems), len(got.Flows))
	}
	s, err := rulejson.Encode(got)
	if err != api.OK {
		t.Fatal(err)
	}
	if again, err, _ := rulejson.Decode(s); err != api.OK || !rules.Same(again, got) {
		t.Error(err)
	}
}

// E8, P1: texts of any bytes are taken as rules that are right, or have an error and nothing beside it.
func TestDecodeAnything(t *testing.T) {
	r := rand.New(rand.NewSource(88))
	taken := 0
	for range 20000 {
		s := []byte(allAsText)
		if r.Intn(2) == 0 {
			made, _ := rulejson.Encode(rightRules(r))
			s = []byte(made)
		}
		for range r.Intn(3) {
			i := r.Intn(len(s))
			switch r.Intn(3) {
			case 0:
				s[i] = byte(r.Intn(256))
			case 1:
				s = slices.Delete(s, i, min(len(s), i+1+r.Intn(20)))
			case 2:
				s = slices.Insert(s, i, `0123456789"{}[],:-.e`[r.Intn(20)])
			}
			if len(s) == 0 {
				break
			}
		}
		got, err, at := rulejson.Decode(string(s))
		if err != api.OK {
			if !reflect.DeepEqual(got, api.Rules{}) || at < 0 || at > len(s) {
				t.Fatalf("%q: %+v, %v, %d", s, got, err, at)
			}
			continue
		}
		taken++
		if _, _, err := rules.Where(got); err != api.OK || at != 0 {
			t.Fatalf("%q: the rules have %v, %d", s, err, at)
		}
	}
	if taken < 3000 {
		t.Errorf("only %d were taken", taken)
	}
}
