package command_test

import (
	"math"
	"math/rand"
	"strconv"
	"strings"
	"testing"

	"spillway/api"
	"spillway/command"
	"spillway/json"
)

func part(name string, v api.Value) command.Part { return command.Part{Name: name, Value: v} }

// read is a JSON text's value.
func read(t *testing.T, s string) api.Value {
	t.Helper()
	v, err, at := json.Parse(s)
	if err != api.OK {
		t.Fatalf("%q: %v at %d", s, err, at)
	}
	return v
}

// P24.3: Ok is an object of ok and the parts, in order, whatever their names.
func TestOk(t *testing.T) {
	for _, x := range []struct {
		parts []command.Part
		want  string
	}{
		{nil, `{"ok":true}`},
		{[]command.Part{part("version", json.OfInt(3))}, `{"ok":true,"version":3}`},
		{[]command.Part{part("b", json.OfText("é\n")), part("a", json.List()), part("", api.Value{Kind: api.Null})}, `{"ok":true,"b":"é\n","a":[],"":null}`},
		{[]command.Part{part("ok", api.Value{Kind: api.False}), part("error", json.OfInt(1)), part("ok", api.Value{Kind: api.True})}, `{"ok":true,"ok":false,"error":1,"ok":true}`},
	} {
		if s, err := command.Ok(x.parts...); s != x.want || err != api.OK {
			t.Errorf("Ok(%+v): %s, %v, want %s", x.parts, s, err, x.want)
		}
	}
}

// P24.3: Ok has json.Print's error.
func TestOkRefused(t *testing.T) {
	endless := api.Value{Kind: api.Array, List: make([]api.Value, 1)}
	endless.List[0] = endless
	deep := json.OfInt(1)
	for range api.MaxDeep {
		deep = json.List(deep)
	}
	room := api.MaxText - len(`{"ok":true,"a":""}`)
	for i, x := range []struct {
		p    command.Part
		want api.Errno
	}{
		{part("a", api.Value{}), api.ErrForm},
		{part("a", json.OfText("\xff")), api.ErrForm},
		{part("\xff", json.OfInt(1)), api.ErrForm},
		{part("a", api.Value{Kind: api.Number, Text: "01"}), api.ErrForm},
		{part("a", endless), api.ErrForm},
		{part("a", deep), api.ErrForm},
		{part("a", deep.List[0]), api.OK},
		{part("a", json.OfText(strings.Repeat("x", room))), api.OK},
		{part("a", json.OfText(strings.Repeat("x", room+1))), api.ErrLong},
	} {
		if s, err := command.Ok(x.p); err != x.want || (s == "") != (err != api.OK) {
			t.Errorf("%d: Ok: %d bytes, %v, want %v", i, len(s), err, x.want)
		}
	}
	many := make([]command.Part, api.MaxText-1)
	for i := range many {
		many[i] = part("", json.OfInt(1))
	}
	for n, want := range map[int]api.Errno{api.MaxText - 1: api.ErrForm, api.MaxText - 2: api.ErrLong, 10000: api.OK} {
		if s, err := command.Ok(many[:n]...); err != want || (s == "") != (err != api.OK) {
			t.Errorf("Ok of %d parts: %v, want %v", n, err, want)
		}
	}
}

// P3: the parts that are handed in stay as they are, spare room behind them too.
func TestOkOwn(t *testing.T) {
	parts := []command.Part{part("a", json.OfInt(1)), part("b", json.OfInt(2)), part("c", json.OfInt(3))}
	if _, err := command.Ok(parts[:1]...); err != api.OK || parts[0].Name != "a" || parts[1].Name != "b" || parts[2].Name != "c" {
		t.Errorf("Ok has changed its parts: %+v", parts)
	}
}

// P24.3: Fail is an object of ok, error and at, whatever they are.
func TestFail(t *testing.T) {
	for _, e := range []api.Errno{0, 1, 2, 60, -1, math.MaxInt, math.MinInt} {
		for _, at := range []int{0, 7, -1, math.MaxInt, math.MinInt} {
			want := `{"ok":false,"error":` + strconv.Itoa(int(e)) + `,"at":` + strconv.Itoa(at) + `}`
			if s := command.Fail(e, at); s != want {
				t.Errorf("Fail(%d, %d): %s", e, at, s)
			}
		}
	}
}

// said is all that Answer answers.
type said struct {
	ok        bool
	err       api.Errno
	at        int
	isWhole   bool // the value is that of the text
	isNothing bool
	wrong     api.Errno
}

func answer(s string) said {
	isOk, e, at, v, wrong := command.Answer(s)
	whole, _, _ := json.Parse(s)
	isNothing := v.Kind == 0 && v.Text == "" && v.List == nil && v.Names == nil
	return said{isOk, e, at, json.Equal(v, whole), isNothing, wrong}
}

// P24.3: an answer that is ok is the whole Object, whatever stands behind ok; another one is its error and its place.
func TestAnswer(t *testing.T) {
	for _, s := range []string{
		`{"ok":true}`, ` { "o\u006b" : true } `, `{"ok":true,"version":3,"rules":{}}`, `{"ok":true,"ok":false,"error":1,"at":2}`, `{"ok":true,"error":1,"at":2}`, `{"ok":true,"":[{}]}`,
	} {
		if got := answer(s); got != (said{ok: true, isWhole: true}) {
			t.Errorf("Answer(%s): %+v", s, got)
		}
	}
	for s, want := range map[string]said{
		`{"ok":false,"error":2,"at":7}`:                                      {err: 2, at: 7},
		`{"ok":false,"error":1,"at":0}`:                                      {err: 1},
		` { "ok" : false, "error":99 , "at":-3 } `:                           {err: 99, at: -3},
		`{"ok":false,"error":1.0e1,"at":-0}`:                                 {err: 10},
		`{"ok":false,"error":9223372036854775807,"at":-9223372036854775808}`: {err: math.MaxInt, at: math.MinInt},
	} {
		want.isNothing = true
		if got := answer(s); got != want {
			t.Errorf("Answer(%s): %+v, want %+v", s, got, want)
		}
	}
}

// P24.3: what is no answer has json.Parse's error, or ErrForm, and nothing else.
func TestNoAnswer(t *testing.T) {
	for s, want := range map[string]api.Errno{
		"":                      api.ErrEnd,
		`{"ok":true`:            api.ErrEnd,
		`{"ok":true}}`:          api.ErrMore,
		`{"ok":tru}`:            api.ErrChar,
		`{"ok":true,"x":01}`:    api.ErrNumber,
		"{\"ok\":true,\"\n\"}":  api.ErrText,
		strings.Repeat("[", 65): api.ErrDeep,
		`{"ok":true}` + strings.Repeat(" ", api.MaxText): api.ErrLong,
	} {
		if got := answer(s); got.ok || got.err != 0 || got.at != 0 || !got.isNothing || got.wrong != want {
			t.Errorf("Answer(%.50q): %+v, want %v", s, got, want)
		}
	}
	for _, s := range []string{
		"null", "true", "false", "1", `"ok"`, "[]", "[true]", `["ok",true]`, "{}",
		`{"Ok":true}`, `{"":true}`, `{"x":1,"ok":true}`, `{"ok":1}`, `{"ok":"true"}`, `{"ok":null}`, `{"ok":[true]}`, `{"ok":{}}`,
		`{"ok":false}`, `{"ok":false,"error":1}`, `{"ok":false,"at":1}`, `{"error":1,"at":1}`,
		`{"ok":false,"at":1,"error":1}`, `{"error":1,"ok":false,"at":1}`, `{"error":1,"at":1,"ok":false}`,
		`{"ok":false,"error":1,"at":1,"x":1}`, `{"ok":false,"error":1,"at":1,"at":1}`, `{"ok":false,"ok":false,"error":1,"at":1}`, `{"x":1,"ok":false,"error":1,"at":1}`,
		`{"ok":false,"error":0,"at":1}`, `{"ok":false,"error":-1,"at":1}`, `{"ok":false,"error":0.5,"at":1}`, `{"ok":false,"error":1.5,"at":1}`, `{"ok":false,"error":1e400,"at":1}`,
		`{"ok":false,"error":9223372036854775808,"at":1}`, `{"ok":false,"error":"1","at":1}`, `{"ok":false,"error":null,"at":1}`, `{"ok":false,"error":[1],"at":1}`,
		`{"ok":false,"error":1,"at":0.5}`, `{"ok":false,"error":1,"at":9223372036854775808}`, `{"ok":false,"error":1,"at":"1"}`, `{"ok":false,"error":1,"at":null}`, `{"ok":false,"error":1,"at":true}`,
		`{"ok":false,"Error":1,"at":1}`, `{"ok":false,"error":1,"place":1}`, `{"ok":0,"error":1,"at":1}`, `{"ok":null,"error":1,"at":1}`,
	} {
		if got := answer(s); got.ok || got.err != 0 || got.at != 0 || !got.isNothing || got.wrong != api.ErrForm {
			t.Errorf("Answer(%s): %+v", s, got)
		}
	}
}

// P24.7: Answer of Ok and Fail is what went in.
func TestAnswerBack(t *testing.T) {
	for seed := range 200 {
		r := rand.New(rand.NewSource(int64(seed)))
		var parts []command.Part
		want := api.Value{Kind: api.Object, Names: []string{"ok"}, List: []api.Value{{Kind: api.True}}}
		for range r.Intn(5) {
			p := part(pick(r, "ok", "error", "at", "x", "é", ""), pick(r, json.OfInt(r.Intn(9)), json.OfText("\x00é\""), read(t, `{"a":[1,null,{"b":false}]}`), api.Value{Kind: api.False}))
			parts = append(parts, p)
			want.Names, want.List = append(want.Names, p.Name), append(want.List, p.Value)
		}
		s, err := command.Ok(parts...)
		ok(t, "Ok", err)
		if isOk, e, at, v, wrong := command.Answer(s); !isOk || e != 0 || at != 0 || !json.Equal(v, want) || wrong != api.OK {
			t.Fatalf("Answer(%s): %v, %v, %d, %+v, %v", s, isOk, e, at, v, wrong)
		}
		e, at := api.Errno(1+r.Intn(70)), pick(r, 0, r.Intn(1<<16), math.MaxInt)
		if got := answer(command.Fail(e, at)); got != (said{err: e, at: at, isNothing: true}) {
			t.Fatalf("Answer of Fail(%d, %d): %+v", e, at, got)
		}
	}
}

// P24.3: metrics are told each with its parts in order.
func TestMetrics(t *testing.T) {
	if v := command.Metrics(); !json.Equal(v, api.Value{Kind: api.Array}) {
		t.Errorf("Metrics of none: %+v", v)
	}
	l := []command.Metric{
		{Resource: "a", Counts: api.Counts{Pass: 1, Block: 2, Done: 3, Errors: 4, RtSum: 5, MinRt: 6}, Flight: 7},
		{},
		{Resource: "é\"", Counts: api.Counts{Pass: math.MaxInt, Block: -1}, Flight: math.MinInt},
	}
	const want = `[{"resource":"a","pass":1,"block":2,"done":3,"errors":4,"rt":5,"min":6,"flight":7},` +
		`{"resource":"","pass":0,"block":0,"done":0,"errors":0,"rt":0,"min":0,"flight":0},` +
		`{"resource":"é\"","pass":9223372036854775807,"block":-1,"done":0,"errors":0,"rt":0,"min":0,"flight":-9223372036854775808}]`
	v := command.Metrics(l...)
	if s, err := json.Print(v); s != want || err != api.OK {
		t.Errorf("Metrics: %s, %v, want %s", s, err, want)
	}
	clear(v.List[0].List)
	clear(v.List[0].Names)
	if s, _ := json.Print(command.Metrics(l...)); s != want {
		t.Errorf("Metrics once more: %s", s)
	}
	if v := command.Metrics(command.Metric{Resource: "\xff"}); len(v.List) != 1 || v.List[0].List[0].Text != "\xff" {
		t.Errorf("Metrics of what is no UTF-8: %+v", v)
	}
}
