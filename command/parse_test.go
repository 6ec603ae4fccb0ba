package command_test

import (
	"math/rand"
	"slices"
	"strings"
	"testing"

	"spillway/api"
	"spillway/command"
	"spillway/json"
	"spillway/rulejson"
	"spillway/rules"
)

// Chapter 24, example 1.
func TestExample(t *testing.T) {
	parses(t, `{"cmd":"fetch"}`, command.Command{Kind: command.Fetch})
	fails(t, `{"cmd":"fetch","x":1}`, api.ErrField, 0)
	parses(t, `{"cmd":"push","rules":{"flow":[{"resource":"a","count":5}]}}`, command.Command{Kind: command.Push, Rules: flowA})
	if s := command.Fail(2, 7); s != `{"ok":false,"error":2,"at":7}` {
		t.Errorf("Fail(2, 7): %s", s)
	}
}

// P24.1: each command's text is that command.
func TestParse(t *testing.T) {
	for _, x := range texts {
		parses(t, x.text, x.Command)
	}
}

// P24.1: members stand in any order, with blanks; texts are written in any way, and whole numbers too.
func TestParseFree(t *testing.T) {
	top := command.Command{Kind: command.Top, K: 15}
	for _, s := range []string{
		`{"k":15,"cmd":"top"}`,
		" {\t\"k\" : 15\r,\n\"cmd\":\"top\" } ",
		`{"c\u006dd":"t\u006fp","\u006b":15}`,
		`{"cmd":"top","k":1.50e1}`,
		`{"cmd":"top","k":150E-1}`,
		`{"cmd":"top","k":15.000}`,
	} {
		parses(t, s, top)
	}
	parses(t, `{"cmd":"top","k":-0}`, command.Command{Kind: command.Top})
	parses(t, `{"cmd":"top","k":0.4096e4}`, command.Command{Kind: command.Top, K: 4096})
	parses(t, `{"resource":"\u0061","cmd":"metrics"}`, command.Command{Kind: command.GetMetrics, Resource: "a"})
	parses(t, `{"mode":"s\u0065rver","cmd":"mode"}`, command.Command{Kind: command.SetMode, Mode: 3})
	parses(t, `{"cpu":2e0,"cmd":"sample","load":10.0e-1}`, command.Command{Kind: command.Sample, Load: 1, Cpu: 2})
	parses(t, `{"rules":{},"cmd":"push"}`, command.Command{Kind: command.Push})
	parses(t, `{"rules":{"system":[{}]},"cmd":"push"}`, command.Command{Kind: command.Push, Rules: api.Rules{Systems: []api.System{{Qps: -1, Threads: -1, Rt: -1, Load: -1, Cpu: -1}}}})
}

// P24.1: what is no JSON text has json.Parse's error and place.
func TestParseNoJson(t *testing.T) {
	for _, x := range []struct {
		s   string
		err api.Errno
		at  int
	}{
		{"", api.ErrEnd, 0},
		{" ", api.ErrEnd, 1},
		{"x", api.ErrChar, 0},
		{`{"cmd":"fetch"`, api.ErrEnd, 14},
		{`{"cmd":"fetch"} {`, api.ErrMore, 16},
		{`{"cmd":"fe` + "\xff" + `"}`, api.ErrText, 10},
		{`{"cmd":"top","k":01}`, api.ErrNumber, 18},
		{`{"x":` + strings.Repeat("[", 64), api.ErrDeep, 68},
		{strings.Repeat(" ", api.MaxText-14) + `{"cmd":"fetch"}`, api.ErrLong, api.MaxText},
	} {
		fails(t, x.s, x.err, x.at)
	}
	parses(t, strings.Repeat(" ", api.MaxText-15)+`{"cmd":"fetch"}`, command.Command{Kind: command.Fetch})
}

// P24.1: what is no Object has ErrForm, whatever it is.
func TestParseNoObject(t *testing.T) {
	for _, s := range []string{"null", "true", "false", "1", `"fetch"`, "[]", `["cmd","fetch"]`, `[{"cmd":"fetch"}]`} {
		fails(t, s, api.ErrForm, 0)
	}
}

// P24.1: ErrField of all that is no command else.
func TestParseField(t *testing.T) {
	var l []string
	for _, cmd := range []string{`"x"`, `""`, `"Fetch"`, `"FETCH"`, `"fetch "`, `"getmetrics"`, `"setmode"`, "1", "2", "null", "true", "[]", `["fetch"]`, "{}", `{"cmd":"fetch"}`} {
		l = append(l, `{"cmd":`+cmd+`}`)
	}
	l = append(l, "{}", `{"Cmd":"fetch"}`, `{"":"fetch"}`, `{"kind":"fetch"}`, `{"k":1}`)
	for _, x := range texts {
		body := strings.TrimSuffix(x.text, "}")
		l = append(l, body+`,"x":1}`, body+`,"":1}`, body+`,"cmd":"fetch"}`, `{"cmd":"fetch",`+x.text[1:], `{"x":null,`+x.text[1:])
		if _, twice, is := strings.Cut(body, ","); is {
			l = append(l, body+","+twice+"}", `{`+twice+`}`, strings.Replace(x.text, "cmd", "cmd ", 1))
		}
	}
	// Parts that others name.
	for _, cmd := range []string{"push", "fetch", "metrics", "top", "mode", "sample"} {
		for _, part := range []string{`"rules":{}`, `"resource":"a"`, `"k":1`, `"mode":"local"`, `"load":1,"cpu":1`, `"load":1`, `"cpu":1`} {
			s := `{"cmd":"` + cmd + `",` + part + `}`
			right := []string{`{"cmd":"push","rules":{}}`, `{"cmd":"metrics","resource":"a"}`, `{"cmd":"top","k":1}`, `{"cmd":"mode","mode":"local"}`, `{"cmd":"sample","load":1,"cpu":1}`}
			if !slices.Contains(right, s) {
				l = append(l, s)
			}
		}
	}
	for _, cmd := range []string{"push", "top", "mode", "sample"} {
		l = append(l, `{"cmd":"`+cmd+`"}`)
	}
	for _, resource := range []string{`""`, `"a b"`, `"é"`, `"\u0000"`, `"` + strings.Repeat("x", api.MaxName+1) + `"`, "1", "null", "[]", "{}", "true", `["a"]`} {
		l = append(l, `{"cmd":"metrics","resource":`+resource+`}`)
	}
	for _, mode := range []string{`""`, `"x"`, `"Local"`, `"local "`, "1", "2", "null", "[]", "{}", "true", `["local"]`} {
		l = append(l, `{"cmd":"mode","mode":`+mode+`}`)
	}
	for _, n := range []string{"-1", "1.5", "1e-1", "1e400", "9223372036854775808", "-9223372036854775809", `"1"`, "null", "[]", "{}", "true", "[1]"} {
		l = append(l, `{"cmd":"top","k":`+n+`}`, `{"cmd":"sample","load":`+n+`,"cpu":1}`, `{"cmd":"sample","load":1,"cpu":`+n+`}`)
	}
	l = append(l, `{"cmd":"top","k":4097}`, `{"cmd":"sample","load":1099511627777,"cpu":1}`, `{"cmd":"sample","load":1,"cpu":1099511627777}`)
	for _, s := range l {
		fails(t, s, api.ErrField, 0)
	}
}

// P24.1: of rules FromValue's error, at the place 0; but what is wrong with the parts comes ahead of it.
func TestParseRules(t *testing.T) {
	for text, want := range map[string]api.Errno{
		`1`:                                     api.ErrField,
		`null`:                                  api.ErrField,
		`[]`:                                    api.ErrField,
		`"x"`:                                   api.ErrField,
		`{"x":[]}`:                              api.ErrField,
		`{"flow":{}}`:                           api.ErrField,
		`{"flow":[],"flow":1}`:                  api.ErrField,
		`{"flow":[{"cuont":5,"resource":"a"}]}`: api.ErrField,
		`{"flow":[{"count":5}]}`:                api.ErrName,
		`{"flow":[{"resource":"a","count":5.0}]}`:            api.ErrNumber,
		`{"flow":[{"resource":"a","count":-1}]}`:             api.ErrFlow,
		`{"break":[{"resource":"a"}]}`:                       api.ErrBreak,
		`{"hot":[{"resource":"a"}]}`:                         api.ErrHot,
		`{"system":[{"qps":-2}]}`:                            api.ErrSystem,
		`{"authority":[{"resource":"a"}]}`:                   api.ErrList,
		`{"flow":[` + strings.Repeat("{},", 256) + `{}]}`:    api.ErrLong,
		`{"system":[` + strings.Repeat("{},", 256) + `1]}`:   api.ErrField,
		`{"system":[` + strings.Repeat("{},", 255) + `{}]} `: api.OK,
	} {
		s := `{"cmd":"push","rules":` + text + `}`
		if want == api.OK {
			if _, err, at := command.Parse(s); err != api.OK || at != 0 {
				t.Errorf("Parse(%.100q): %v, %d", s, err, at)
			}
			continue
		}
		fails(t, s, want, 0)
		fails(t, `{"rules":`+text+`,"cmd":"push"}`, want, 0)
		fails(t, `{"rules":`+text+`,"cmd":"push","x":1}`, api.ErrField, 0)
		fails(t, `{"rules":`+text+`,"rules":{},"cmd":"push"}`, api.ErrField, 0)
		fails(t, `{"rules":`+text+`,"cmd":"push","cmd":"push"}`, api.ErrField, 0)
		fails(t, `{"rules":`+text+`,"cmd":"fetch"}`, api.ErrField, 0)
		fails(t, `{"rules":`+text+`}`, api.ErrField, 0)
	}
}

// model is Parse as the document tells of it, member by member.
func model(s string) (command.Command, api.Errno, int) {
	v, err, at := json.Parse(s)
	if err != api.OK {
		return command.Command{}, err, at
	}
	if v.Kind != api.Object {
		return command.Command{}, api.ErrForm, 0
	}
	parts := map[string]api.Value{}
	for i, name := range v.Names {
		if _, twice := parts[name]; twice {
			return command.Command{}, api.ErrField, 0
		}
		parts[name] = v.List[i]
	}
	whole := func(name string, most int) (int, bool) {
		n, is := json.Whole(parts[name])
		delete(parts, name)
		return n, is && n >= 0 && n <= most
	}
	text := func(name string) (string, bool) {
		one := parts[name]
		delete(parts, name)
		return one.Text, one.Kind == api.String
	}
	var c command.Command
	cmd, may := text("cmd")
	switch {
	case !may:
	case cmd == "push":
		c.Kind = command.Push
		one, is := parts["rules"]
		if may = is && len(parts) == 1; may {
			c.Rules, err, _, _ = rulejson.FromValue(one)
			delete(parts, "rules")
		}
	case cmd == "fetch":
		c.Kind = command.Fetch
	case cmd == "metrics":
		c.Kind = command.GetMetrics
		if _, is := parts["resource"]; is {
			c.Resource, may = text("resource")
			may = may && rules.IsName(c.Resource)
		}
	case cmd == "top":
		c.Kind = command.Top
		c.K, may = whole("k", 4096)
	case cmd == "mode":
		c.Kind = command.SetMode
		mode, _ := text("mode")
		c.Mode, may = map[string]int{"local": 1, "client": 2, "server": 3}[mode]
	case cmd == "sample":
		c.Kind = command.Sample
		var is bool
		c.Load, may = whole("load", 1<<40)
		c.Cpu, is = whole("cpu", 1<<40)
		may = may && is
	default:
		may = false
	}
	if !may || len(parts) > 0 {
		return command.Command{}, api.ErrField, 0
	}
	if err != api.OK {
		return command.Command{}, err, 0
	}
	return c, api.OK, 0
}

// P24.1: texts of any kind are, or are not, the commands that the document tells.
func TestParseModel(t *testing.T) {
	counted := map[api.Errno]int{}
	for seed := range 40 {
		r := rand.New(rand.NewSource(int64(seed)))
		for range 300 {
			s := someText(t, r)
			c, err, at := command.Parse(s)
			want, wantErr, wantAt := model(s)
			counted[err]++
			if !same(c, want) || err != wantErr || at != wantAt {
				t.Fatalf("Parse(%q): %+v, %v, %d, want %+v, %v, %d", s, c, err, at, want, wantErr, wantAt)
			}
		}
	}
	for _, err := range []api.Errno{api.OK, api.ErrField, api.ErrEnd, api.ErrMore} {
		if counted[err] < 100 {
			t.Errorf("%v: %d times", err, counted[err])
		}
	}
}
