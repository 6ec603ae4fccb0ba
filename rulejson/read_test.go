package rulejson_test

import (
	"math/rand"
	"reflect"
	"slices"
	"testing"

	"spillway/api"
	"spillway/json"
	"spillway/rulejson"
	"spillway/rules"
)

// ruleOf is a rule of a kind as a JSON object, all members there, and right.
func ruleOf(s spec) api.Value {
	v := rulejson.ToValue(all())
	for i, name := range v.Names {
		if name == s.name {
			return v.List[i].List[0]
		}
	}
	return api.Value{}
}

// whole is rules of one kind as a value.
func whole(name string, l ...api.Value) api.Value {
	return json.Put(api.Value{}, name, json.List(l...))
}

// with is an object with another value of a member.
func with(v api.Value, name string, part api.Value) api.Value {
	v = json.Put(v, "", api.Value{}) // a copy of its own
	v.Names, v.List = v.Names[:len(v.Names)-1], v.List[:len(v.List)-1]
	v.List[slices.Index(v.Names, name)] = part
	return v
}

// without is an object without a member.
func without(v api.Value, name string) api.Value {
	i := slices.Index(v.Names, name)
	return api.Value{Kind: api.Object, Names: slices.Delete(slices.Clone(v.Names), i, i+1), List: slices.Delete(slices.Clone(v.List), i, i+1)}
}

// P9.1: each member of each kind, of each other value: of another kind ErrField, of a number that is not so written ErrNumber, with the rule's kind and number.
func TestEachMember(t *testing.T) {
	for _, s := range specs {
		right := ruleOf(s)
		names, kinds := split(s.members)
		if !slices.Equal(right.Names, names) {
			t.Fatalf("%s: the members are %q", s.name, right.Names)
		}
		for i, name := range names {
			for _, other := range others() {
				v := whole(s.name, right, right, with(right, name, other), right)
				want := modelled(v)
				if want.err != api.OK && (want.kind != s.kind || want.number != 2) {
					t.Fatalf("the model has %+v", want)
				}
				if isText := kinds[i] == "S"; isText && other.Kind != api.String && want.err != api.ErrField {
					t.Fatalf("the model has %+v", want)
				}
				gives(t, s.name+"'s "+name, v, want)
			}
		}
	}
}

// P9.1: numbers that are not in decimal, or beyond int64, have ErrNumber; the greatest and the least are read.
func TestNumbers(t *testing.T) {
	for _, s := range specs {
		names, kinds := split(s.members)
		for i, name := range names {
			if kinds[i] != "N" {
				continue
			}
			for _, text := range notDecimal {
				v := whole(s.name, with(ruleOf(s), name, api.Value{Kind: api.Number, Text: text}))
				gives(t, s.name+"'s "+name, v, wrong(api.ErrNumber, s.kind, 0))
			}
			// These are read, and are no right rules.
			for _, text := range []string{"9223372036854775807", "-9223372036854775808", "-2"} {
				v := whole(s.name, with(ruleOf(s), name, api.Value{Kind: api.Number, Text: text}))
				if got := fromValue(v); got.err == api.ErrNumber || got.err == api.OK || got.kind != s.kind {
					t.Errorf("%s of %s is %s: %+v", name, s.name, text, got)
				}
			}
		}
	}
	item := api.Value{Kind: api.Object, Names: []string{"count"}, List: []api.Value{{Kind: api.Number, Text: "1.0"}}}
	hot := specs[2]
	gives(t, "an item's", whole("hot", ruleOf(hot), with(ruleOf(hot), "items", json.List(item))), wrong(api.ErrNumber, api.HotRule, 1))
}

// P9.1: each member may be missing, or come twice, or come in any place.
func TestMembersOnceInAnyOrder(t *testing.T) {
	r := rand.New(rand.NewSource(91))
	for _, s := range specs {
		right := ruleOf(s)
		for i, name := range right.Names {
			twice := json.Put(right, name, right.List[i])
			gives(t, s.name+", twice "+name, whole(s.name, right, twice), wrong(api.ErrField, s.kind, 1))
			none := without(right, name)
			gives(t, s.name+" without "+name, whole(s.name, none), modelled(whole(s.name, none)))
			again := json.Put(none, name, right.List[i])
			gives(t, s.name+", as the last "+name, whole(s.name, again), modelled(whole(s.name, right)))
			for _, other := range []string{"", "x", name + " ", "kind", "Resource"} {
				gives(t, s.name+", also "+other, whole(s.name, json.Put(right, other, right.List[i])), wrong(api.ErrField, s.kind, 0))
			}
		}
		for range 50 {
			gives(t, s.name, whole(s.name, shuffled(r, right), right), modelled(whole(s.name, right, right)))
		}
		if got := modelled(whole(s.name, right)); got.err != api.OK {
			t.Errorf("%s: the rule is not right: %v", s.name, got.err)
		}
	}
}

// P9.1: what is wrong with the whole has ErrField, and is told ahead of all that is wrong with rules.
func TestWhole(t *testing.T) {
	field := wrong(api.ErrField, api.NoRule, 0)
	for _, s := range []string{
		"null", "true", "false", "0", `"flow"`, "[]", `[{"flow":[]}]`,
		`{"x":[]}`, `{"":[]}`, `{"Flow":[]}`, `{"flow ":[]}`, `{"flows":[]}`, `{"breaks":[]}`, `{"list":[]}`, `{"resource":"a"}`,
		`{"flow":null}`, `{"flow":{}}`, `{"break":0}`, `{"hot":""}`, `{"system":true}`, `{"authority":{"resource":"a"}}`,
		`{"flow":[],"flow":[]}`, `{"system":[],"flow":[],"system":[]}`, `{"authority":[],"authority":0}`,
		`{"flow":[5],"x":[]}`, `{"flow":[{"count":1.5}],"break":0}`, `{"flow":[{}],"flow":[]}`, `{"authority":[],"system":[{"qps":-2}],"hot":null}`,
		`{"flow":[],"break":[],"hot":[],"system":[],"authority":[],"more":[]}`,
	} {
		gives(t, s, read(t, s), field)
	}
	var v api.Value
	gives(t, "no value", v, field)
	for kind := range 256 {
		if kind != int(api.Object) {
			gives(t, "a value of a kind that is no object", api.Value{Kind: api.JsonKind(kind), Names: []string{"flow"}, List: []api.Value{{Kind: api.Array}}}, field)
		}
	}
}

// P9.1: of rules, the first that is wrong is told: by kinds, then by numbers, then by members as they stand; then what rules.Where tells.
func TestFirstWrong(t *testing.T) {
	tests := []struct {
		s    string
		want found
	}{
		{`{"flow":[5]}`, wrong(api.ErrField, api.FlowRule, 0)},
		{`{"flow":[{"resource":"a"},null]}`, wrong(api.ErrField, api.FlowRule, 1)},
		{`{"break":[[]]}`, wrong(api.ErrField, api.BreakRule, 0)},
		{`{"hot":["a"]}`, wrong(api.ErrField, api.HotRule, 0)},
		{`{"system":[{},{},{},{"qps":true}]}`, wrong(api.ErrField, api.SystemRule, 3)},
		{`{"authority":[true]}`, wrong(api.ErrField, api.ListRule, 0)},
		// Kinds in their order, not as they stand.
		{`{"authority":[5],"system":[5],"hot":[5],"break":[5],"flow":[{"resource":"a"},{"count":1e1}]}`, wrong(api.ErrNumber, api.FlowRule, 1)},
		{`{"authority":[5],"system":[5],"hot":[5],"break":[{},5],"flow":[{"resource":"a"}]}`, wrong(api.ErrField, api.BreakRule, 1)},
		{`{"authority":[5],"system":[5],"hot":[{"index":0.0}]}`, wrong(api.ErrNumber, api.HotRule, 0)},
		{`{"authority":[5],"system":[{"qps":1.0,"x":0}]}`, wrong(api.ErrNumber, api.SystemRule, 0)},
		// Numbers in their order.
		{`{"system":[{"qps":1.0},{"x":1}]}`, wrong(api.ErrNumber, api.SystemRule, 0)},
		{`{"system":[{},{"x":1},{"qps":1.0}]}`, wrong(api.ErrField, api.SystemRule, 1)},
		// Members as they stand.
		{`{"system":[{"cpu":1.0,"qps":null}]}`, wrong(api.ErrNumber, api.SystemRule, 0)},
		{`{"system":[{"cpu":null,"qps":1.0}]}`, wrong(api.ErrField, api.SystemRule, 0)},
		{`{"flow":[{"count":1.5,"x":0,"resource":1}]}`, wrong(api.ErrNumber, api.FlowRule, 0)},
		{`{"flow":[{"x":0,"count":1.5}]}`, wrong(api.ErrField, api.FlowRule, 0)},
		{`{"flow":[{"count":1,"warm":1.5,"count":1}]}`, wrong(api.ErrNumber, api.FlowRule, 0)},
		{`{"flow":[{"count":1,"count":1.5,"warm":1.5}]}`, wrong(api.ErrField, api.FlowRule, 0)},
		// Words as they are written, and no others.
		{`{"flow":[{"resource":"a","shape":"Pace"}]}`, wrong(api.ErrField, api.FlowRule, 0)},
		{`{"flow":[{"resource":"a","shape":""}]}`, wrong(api.ErrField, api.FlowRule, 0)},
		{`{"flow":[{"resource":"a","shape":"direct"}]}`, wrong(api.ErrField, api.FlowRule, 0)},
		{`{"flow":[{"resource":"a","strategy":0}]}`, wrong(api.ErrField, api.FlowRule, 0)},
		{`{"break":[{"resource":"a","grade":"error"}]}`, wrong(api.ErrField, api.BreakRule, 0)},
		// Items and origins.
		{`{"hot":[{"items":[{"value":"a"},{"value":1}],"count":1.5}]}`, wrong(api.ErrField, api.HotRule, 0)},
		{`{"hot":[{"items":[{"count":-0},5]}]}`, wrong(api.ErrNumber, api.HotRule, 0)},
		{`{"hot":[{"items":[5,{"count":-0}]}]}`, wrong(api.ErrField, api.HotRule, 0)},
		{`{"hot":[{"items":[{"value":"a","value":"a"}]}]}`, wrong(api.ErrField, api.HotRule, 0)},
		{`{"hot":[{"items":[{"resource":"a"}]}]}`, wrong(api.ErrField, api.HotRule, 0)},
		{`{"hot":[{"items":{}}]}`, wrong(api.ErrField, api.HotRule, 0)},
		{`{"hot":[{"items":{"a":{"count":1.0}}}]}`, wrong(api.ErrField, api.HotRule, 0)},
		{`{"authority":[{"resource":"a","origins":{"a":"b"}}]}`, wrong(api.ErrField, api.ListRule, 0)},
		{`{"authority":[{"resource":"a","origins":["b",1]}]}`, wrong(api.ErrField, api.ListRule, 0)},
		{`{"authority":[{"resource":"a","origins":"b"}]}`, wrong(api.ErrField, api.ListRule, 0)},
		// What cannot be read comes ahead of what is not right.
		{`{"flow":[{}],"authority":[{"resource":"a","origins":["b"],"white":1}]}`, wrong(api.ErrField, api.ListRule, 0)},
		{`{"flow":[{"resource":"a"},{"resource":"a b"}],"system":[{"qps":-2}]}`, wrong(api.ErrName, api.FlowRule, 1)},
		{`{"flow":[{"resource":"a","origin":""}]}`, wrong(api.ErrName, api.FlowRule, 0)},
		{`{"flow":[{"resource":"a","count":-1}]}`, wrong(api.ErrFlow, api.FlowRule, 0)},
		{`{"system":[{},{"qps":-2}],"authority":[{}]}`, wrong(api.ErrSystem, api.SystemRule, 1)},
		{`{"authority":[{"resource":"a"}]}`, wrong(api.ErrList, api.ListRule, 0)},
		{`{"hot":[{"resource":"a","seconds":1,"items":[{},{}]}]}`, wrong(api.ErrHot, api.HotRule, 0)},
		{`{"break":[{"resource":"a","grade":"errors","least":1,"window":999999,"recover":1000000}]}`, wrong(api.ErrBreak, api.BreakRule, 0)},
	}
	for _, x := range tests {
		v := read(t, x.s)
		if got := modelled(v); !reflect.DeepEqual(got, x.want) {
			t.Errorf("the model has %+v of %s, want %+v", got, x.s, x.want)
		}
		gives(t, x.s, v, x.want)
	}
}

// P9.1: too many rules have Where's ErrLong; but what cannot be read is told ahead of it.
func TestTooMany(t *testing.T) {
	for _, s := range specs {
		l := slices.Repeat([]api.Value{ruleOf(s)}, api.MaxRules)
		v := whole(s.name, l...)
		if got := fromValue(v); got.err != api.OK || got.kind != api.NoRule || got.number != 0 {
			t.Errorf("%s: %v, %v, %d", s.name, got.err, got.kind, got.number)
		}
		gives(t, s.name, whole(s.name, append(l, ruleOf(s))...), wrong(api.ErrLong, s.kind, 0))
		gives(t, s.name, whole(s.name, append(l, ruleOf(s), api.Value{Kind: api.Null})...), wrong(api.ErrField, s.kind, 257))
	}
}

// P1: values that are none end, and have ErrField; so has one that has no end.
func TestNoValues(t *testing.T) {
	list := func(l ...api.Value) api.Value { return api.Value{Kind: api.Array, List: l} }
	object := func(names []string, l ...api.Value) api.Value {
		return api.Value{Kind: api.Object, Names: names, List: l}
	}
	endless := list(api.Value{})
	endless.List[0] = endless
	self := object([]string{"flow"}, api.Value{})
	self.List[0] = list(self)
	tests := []struct {
		name string
		v    api.Value
		want found
	}{
		{"a name without a value", object([]string{"flow", "break"}, list()), wrong(api.ErrField, api.NoRule, 0)},
		{"a value without a name", object([]string{"flow"}, list(), list()), wrong(api.ErrField, api.NoRule, 0)},
		{"names alone", object([]string{"flow"}), wrong(api.ErrField, api.NoRule, 0)},
		{"a rule's name without a value", object([]string{"system"}, list(object([]string{"qps"}))), wrong(api.ErrField, api.SystemRule, 0)},
		{"a rule's value without a name", object([]string{"system"}, list(object(nil), object(nil, json.OfInt(1)))), wrong(api.ErrField, api.SystemRule, 1)},
		{"an item's value without a name", object([]string{"hot"}, list(object([]string{"items"}, list(object(nil, json.OfInt(1)))))), wrong(api.ErrField, api.HotRule, 0)},
		{"a list without an end", object([]string{"flow"}, endless), wrong(api.ErrField, api.FlowRule, 0)},
		{"items without an end", object([]string{"hot"}, list(object([]string{"items"}, endless))), wrong(api.ErrField, api.HotRule, 0)},
		{"origins without an end", object([]string{"authority"}, list(object([]string{"origins"}, endless))), wrong(api.ErrField, api.ListRule, 0)},
		{"itself", self, wrong(api.ErrField, api.FlowRule, 0)},
	}
	for _, x := range tests {
		gives(t, x.name, x.v, x.want)
	}
}

// P9.1: values of all sorts against the model.
func TestAgainstModel(t *testing.T) {
	r := rand.New(rand.NewSource(99))
	count, other := map[api.Errno]int{}, others()
	for range 25000 {
		v := shuffled(r, rulejson.ToValue(rightRules(r)))
		for range r.Intn(3) {
			v = spoilt(r, v, other)
		}
		want := modelled(v)
		count[want.err]++
		got := fromValue(v)
		if !rules.Same(got.rules, want.rules) || got.err != want.err || got.kind != want.kind || got.number != want.number {
			t.Fatalf("%+v: %+v, want %+v", v, got, want)
		}
	}
	for _, err := range []api.Errno{api.OK, api.ErrField, api.ErrNumber, api.ErrName, api.ErrFlow} {
		if count[err] < 5 {
			t.Errorf("%v came up %d times", err, count[err])
		}
	}
}

// roomy is a value with something behind the end of each of its lists.
func roomy(v api.Value) api.Value {
	l := make([]api.Value, 0, len(v.List)+1)
	for _, part := range v.List {
		l = append(l, roomy(part))
	}
	v.List = append(l, json.OfText("behind"))[:len(l)]
	v.Names = append(slices.Clip(v.Names), "behind")[:len(v.Names)]
	return v
}

func roomsStay(v api.Value) bool {
	n, m := len(v.List), len(v.Names)
	return v.List[:n+1][n].Text == "behind" && v.Names[:m+1][m] == "behind" && !slices.ContainsFunc(v.List, func(part api.Value) bool { return !roomsStay(part) })
}

// P3: a value that is read stays, and the rules are the caller's.
func TestFromValueLeavesValue(t *testing.T) {
	v := roomy(rulejson.ToValue(all()))
	got := fromValue(v)
	if !roomsStay(v) || !json.Equal(v, rulejson.ToValue(all())) {
		t.Error("the value changed")
	}
	spoil(got.rules)
	if !roomsStay(v) || !json.Equal(v, rulejson.ToValue(all())) {
		t.Error("with the rules the value changed")
	}
	if again := fromValue(v); !rules.Same(again.rules, all()) {
		t.Errorf("then they are %+v", again)
	}
}

// spoil lets all in the lists of rules be another.
func spoil(r api.Rules) {
	for i := range r.Flows {
		r.Flows[i].Resource = "spoilt"
	}
	for i := range r.Breaks {
		r.Breaks[i].Resource = "spoilt"
	}
	for i := range r.Hots {
		for j := range r.Hots[i].Items {
			r.Hots[i].Items[j].Value = "spoilt"
		}
	}
	for i := range r.Systems {
		r.Systems[i].Qps = 99
	}
	for i := range r.Lists {
		for j := range r.Lists[i].Origins {
			r.Lists[i].Origins[j] = "spoilt"
		}
	}
}

// P3: rules of which a value is made stay, and the value is the caller's.
func TestToValueLeavesRules(t *testing.T) {
	r := all()
	r.Hots[0].Items = append(r.Hots[0].Items, api.Item{Value: "behind"})[:3]
	r.Lists[0].Origins = append(r.Lists[0].Origins, "behind")[:2]
	r.Flows = append(r.Flows, api.Flow{Resource: "behind"})[:3]
	v := rulejson.ToValue(r)
	if _, err := rulejson.Encode(r); err != api.OK {
		t.Fatal(err)
	}
	change(v)
	if !rules.Same(r, all()) || r.Hots[0].Items[:4][3].Value != "behind" || r.Lists[0].Origins[:3][2] != "behind" || r.Flows[:4][3].Resource != "behind" {
		t.Errorf("the rules became %+v", r)
	}
	v = rulejson.ToValue(r)
	spoil(r)
	if !json.Equal(v, rulejson.ToValue(all())) {
		t.Error("with the rules the value changed")
	}
}

// change lets all in the lists of a value be another.
func change(v api.Value) {
	for i := range v.List {
		change(v.List[i])
		v.List[i].Text = "changed"
	}
	for i := range v.Names {
		v.Names[i] = "changed"
	}
}
