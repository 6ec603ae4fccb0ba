package platform_test

import (
	"fmt"
	"math"
	"math/rand"
	"slices"
	"strconv"
	"strings"
	"testing"

	"spillway/api"
	"spillway/command"
	"spillway/json"
	"spillway/platform"
	"spillway/rulejson"
	"spillway/rules"
)

const fine = `{"ok":true}`

func failed(e api.Errno, at int) string {
	return fmt.Sprintf(`{"ok":false,"error":%d,"at":%d}`, e, at)
}

// metric is the text of what happened at a resource where nothing ended.
func metric(name string, pass, block, flight int) string {
	return fmt.Sprintf(`{"resource":%s,"pass":%d,"block":%d,"done":0,"errors":0,"rt":0,"min":0,"flight":%d}`, strconv.Quote(name), pass, block, flight)
}

// P25.4: each line has one answer, in order; what is no command fails with its error and its place.
func TestPutLines(t *testing.T) {
	p := newPlatform(t, 1)
	put(t, p, 0, "")
	put(t, p, 0, "\n\r\n\n")
	put(t, p, 0, "{\"cmd\":\"fetch\",\"x\":1}\r\n  [1\n\n{\"cmd\":\"top\",\"k\":0}\n{}\n[]\nx\n{\"cmd\":\"top\",\"k\":4097}\n",
		failed(api.ErrField, 0), failed(api.ErrEnd, 4), `{"ok":true,"top":[]}`, failed(api.ErrField, 0), failed(api.ErrForm, 0), failed(api.ErrChar, 0), failed(api.ErrField, 0))
	put(t, p, 0, `{"cmd":"mode","mo`)
	if p.Mode(0) != platform.Local {
		t.Error("half a line is done")
	}
	put(t, p, 0, "de\":\"server\"}\n{\"cmd\":", fine)
	if p.Mode(0) != platform.Server {
		t.Error("the line is not done")
	}
	put(t, p, 0, "1}\n", failed(api.ErrField, 0))
}

// P25.4: a line that is too long breaks the port: the answers ahead stand beside ErrLong, and from then on it is down.
func TestPutTooLong(t *testing.T) {
	p := newPlatform(t, 2)
	line := "{\"cmd\":\"mode\",\"mode\":\"client\"}\n"
	l, err := p.Put(0, []byte(line+"x\n"+strings.Repeat(" ", api.MaxText+1)+"\n"+line)...)
	if !slices.Equal(l, []string{fine, failed(api.ErrChar, 0)}) || err != api.ErrLong || p.Mode(0) != platform.Client {
		t.Errorf("%q, %v", l, err)
	}
	for range 2 {
		if l, err := p.Put(0, []byte(line)...); len(l) != 0 || err != api.ErrDown {
			t.Errorf("%q, %v", l, err)
		}
	}
	put(t, p, 1, strings.Repeat(" ", api.MaxText-len(line)+1)+line, fine)
}

// P25.4, P25.7: a push is a Load of the rules that it says, whose states stay if they are the same; of another one nothing changes.
func TestPush(t *testing.T) {
	p := newPlatform(t, 2)
	rule := `{"resource":"a","count":2}`
	push := func(flows string) string { return `{"cmd":"push","rules":{"flow":[` + flows + `]}}` + "\n" }
	put(t, p, 0, push(rule), fine)
	enter(t, p, 0, call(), passed(1, 1))
	want := api.Rules{Flows: []api.Flow{flowOf(2)}}
	was := seen(p)
	for s, answer := range map[string]string{
		push(rule + `,{"resource":"a","count":-1}`):                          failed(api.ErrFlow, 0),
		push(rule + `,{"resource":"a","count":01}`):                          failed(api.ErrNumber, 83),
		push(rule + `,{"resource":"a","cuont":1}`):                           failed(api.ErrField, 0),
		push(strings.Repeat(rule+",", api.MaxRules) + rule):                  failed(api.ErrLong, 0),
		`{"cmd":"push"}` + "\n":                                              failed(api.ErrField, 0),
		`{"cmd":"push","rules":[]}` + "\n":                                   failed(api.ErrField, 0),
		`{"cmd":"push","rules":{"authority":[{"resource":"a"}]}}` + "\n":     failed(api.ErrList, 0),
		`{"cmd":"push","rules":{"system":[{"qps":-2}],"flow":[]}}` + "\n":    failed(api.ErrSystem, 0),
		`{"cmd":"push","rules":{"break":[{"resource":"a"}]}}` + "\n":         failed(api.ErrBreak, 0),
		`{"cmd":"push","rules":{"hot":[{"resource":"a","index":8}]}}` + "\n": failed(api.ErrHot, 0),
	} {
		put(t, p, 0, s, answer)
		same(t, s, p, was)
	}
	put(t, p, 0, push(rule), fine)
	r, n := p.Engine(0).Rules()
	if !rules.Same(r, want) || n != 2 {
		t.Errorf("rules %+v, replaced %d times", r, n)
	}
	put(t, p, 0, `{"cmd":"push","rules":{}}`+"\n", fine)
	if r, n := p.Engine(0).Rules(); !rules.Same(r, api.Rules{}) || n != 3 {
		t.Errorf("rules %+v, replaced %d times", r, n)
	}
	if r, n := p.Engine(1).Rules(); !rules.Same(r, api.Rules{}) || n != 0 {
		t.Errorf("the other program's rules %+v, replaced %d times", r, n)
	}
}

// P25.4: fetch tells the rules, and how often they were replaced, by whichever way.
func TestFetch(t *testing.T) {
	p := newPlatform(t, 2)
	fetch := `{"cmd":"fetch"}` + "\n"
	none := `{"flow":[],"break":[],"hot":[],"system":[],"authority":[]}`
	put(t, p, 0, fetch, `{"ok":true,"rules":`+none+`,"version":0}`)
	r := api.Rules{
		Flows:   []api.Flow{flowOf(2), flowOf(3, asking(7), fallback)},
		Hots:    []api.Hot{{Resource: "a", Count: 1, Seconds: 1, Items: []api.Item{{Value: "é\n", Count: 2}}}},
		Systems: []api.System{{Qps: -1, Threads: 1, Rt: -1, Load: -1, Cpu: -1}},
		Lists:   []api.Authority{{Resource: "a", White: true, Origins: []string{"x"}}},
	}
	ok(t, "Load", p.Load(0, api.Rules{}))
	ok(t, "Load", p.Load(0, r))
	s, err := rulejson.Encode(r)
	ok(t, "Encode", err)
	put(t, p, 0, fetch, `{"ok":true,"rules":`+s+`,"version":2}`)
	put(t, p, 0, `{"cmd":"push","rules":`+s+"}\n"+fetch, fine, `{"ok":true,"rules":`+s+`,"version":3}`)
	put(t, p, 1, fetch, `{"ok":true,"rules":`+none+`,"version":0}`)
}

// P25.4: rules that no answer can tell: the text would be too long, or the value of an item is no UTF-8.
func TestFetchFails(t *testing.T) {
	p := newPlatform(t, 1)
	fetch := `{"cmd":"fetch"}` + "\n"
	item := func(v string) api.Rules {
		return api.Rules{Hots: []api.Hot{{Resource: "a", Count: 1, Seconds: 1, Items: []api.Item{{Value: v, Count: 2}}}}}
	}
	ok(t, "Load", p.Load(0, item("\xff")))
	put(t, p, 0, fetch, failed(api.ErrForm, 0))
	var many api.Rules
	for range api.MaxRules {
		many.Flows = append(many.Flows, flowOf(1<<40, ofResource(strings.Repeat("x", api.MaxName)), ofOrigin(strings.Repeat("y", api.MaxName))))
	}
	ok(t, "Load", p.Load(0, many))
	put(t, p, 0, fetch, failed(api.ErrLong, 0))
	ok(t, "Load", p.Load(0, item("x")))
	if l, err := p.Put(0, []byte(fetch)...); len(l) != 1 || err != api.OK || !strings.HasSuffix(l[0], `"version":3}`) {
		t.Errorf("%q, %v", l, err)
	}
}

// busy has entered a program's resources so and so often, one call for two tokens; of c two calls are blocked.
func busy(t *testing.T) *platform.Platform {
	t.Helper()
	p := newPlatform(t, 2)
	work(t, p, 0, platform.Local, flowOf(3, ofResource("c")))
	for n, name := range []string{"b", "c", `"\`, "d", "c", "c", "c", "d", "c", "a"} {
		e, err := p.Enter(0, call(resource(name), tokens(1+n/9)))
		if e.Ticket != n+1 || err != api.OK {
			t.Fatalf("%+v, %v", e, err)
		}
	}
	return p
}

// P25.4: metrics are of one resource, or of all in their order, by what is in the second now, and in flight.
func TestMetrics(t *testing.T) {
	p := busy(t)
	ask := `{"cmd":"metrics"}` + "\n"
	one := func(name string) string { return `{"cmd":"metrics","resource":` + strconv.Quote(name) + "}\n" }
	put(t, p, 1, ask+one("a"), `{"ok":true,"metrics":[]}`, failed(api.ErrNone, 0))
	put(t, p, 0, ask, `{"ok":true,"metrics":[`+metric("b", 1, 0, 1)+","+metric("c", 3, 2, 3)+","+metric(`"\`, 1, 0, 1)+","+metric("d", 2, 0, 2)+","+metric("a", 2, 0, 1)+"]}")
	put(t, p, 0, one("c"), `{"ok":true,"metrics":[`+metric("c", 3, 2, 3)+"]}")
	put(t, p, 0, one(`"\`)+one("x")+one("main"), `{"ok":true,"metrics":[`+metric(`"\`, 1, 0, 1)+"]}", failed(api.ErrNone, 0), failed(api.ErrNone, 0))
	do(t, p, tick(700000))
	ok(t, "Exit", p.Exit(0, 2, true))
	put(t, p, 0, one("c"), `{"ok":true,"metrics":[{"resource":"c","pass":3,"block":2,"done":1,"errors":1,"rt":700000,"min":700000,"flight":2}]}`)
	do(t, p, tick(second))
	put(t, p, 0, one("c"), `{"ok":true,"metrics":[{"resource":"c","pass":0,"block":0,"done":1,"errors":1,"rt":700000,"min":700000,"flight":2}]}`)
	put(t, p, 0, one("b"), `{"ok":true,"metrics":[`+metric("b", 0, 0, 1)+"]}")
	if last := p.Engine(0).Last(); last != 700000 {
		t.Errorf("metrics noted %d", last)
	}
}

// P25.4: metrics that are too long for an answer.
func TestMetricsFail(t *testing.T) {
	const many = 255
	p := newPlatform(t, 1)
	var fit []string
	name := func(n int) string { // two bytes in the text for each of its own
		bits := strings.NewReplacer("0", `"`, "1", `\`).Replace(fmt.Sprintf("%08b", n))
		return bits + strings.Repeat(`"`, api.MaxName-len(bits))
	}
	enterAll := func(times int) {
		for n := range times * many {
			_, err := p.Enter(0, call(resource(name(n%many)), tokens(api.MaxCount)))
			ok(t, "Enter", err)
		}
	}
	enterAll(4)
	for n := range many {
		fit = append(fit, metric(name(n), 4*api.MaxCount, 0, 4))
	}
	put(t, p, 0, `{"cmd":"metrics"}`+"\n", `{"ok":true,"metrics":[`+strings.Join(fit, ",")+"]}")
	do(t, p, tick(1e18))
	for _, number := range p.Engine(0).Open() {
		ok(t, "Exit", p.Exit(0, number, true))
	}
	enterAll(12)
	put(t, p, 0, `{"cmd":"metrics"}`+"\n"+`{"cmd":"top","k":255}`+"\n", failed(api.ErrLong, 0), failed(api.ErrLong, 0))
	if l, err := p.Put(0, []byte(`{"cmd":"top","k":250}`+"\n")...); len(l) != 1 || err != api.OK || !strings.HasPrefix(l[0], `{"ok":true,"top":[`) {
		t.Errorf("%.200q, %v", l, err)
	}
}

// P25.4: top is the resources of the greatest Pass, falling; of like ones the first; all, if there are fewer.
func TestTop(t *testing.T) {
	p := busy(t)
	want := []string{metric("c", 3, 2, 3), metric("d", 2, 0, 2), metric("a", 2, 0, 1), metric("b", 1, 0, 1), metric(`"\`, 1, 0, 1)}
	for k := range 7 {
		put(t, p, 0, fmt.Sprintf("{\"cmd\":\"top\",\"k\":%d}\n", k), `{"ok":true,"top":[`+strings.Join(want[:min(k, len(want))], ",")+"]}")
	}
	put(t, p, 0, "{\"k\":4.096e3,\"cmd\":\"top\"}\n", `{"ok":true,"top":[`+strings.Join(want, ",")+"]}")
	put(t, p, 1, "{\"cmd\":\"top\",\"k\":3}\n", `{"ok":true,"top":[]}`)
	do(t, p, tick(950000))
	enter(t, p, 0, call(resource(`"\`)), passed(11, 9))
	do(t, p, tick(second))
	put(t, p, 0, "{\"cmd\":\"top\",\"k\":2}\n", `{"ok":true,"top":[`+metric(`"\`, 1, 0, 2)+","+metric("b", 0, 0, 1)+"]}")
}

// P25.4: mode and sample.
func TestModeAndSample(t *testing.T) {
	p := newPlatform(t, 2)
	for word, m := range map[string]platform.Mode{"local": platform.Local, "client": platform.Client, "server": platform.Server} {
		put(t, p, 1, `{"cmd":"mode","mode":"`+word+"\"}\n", fine)
		if p.Mode(1) != m || p.Mode(0) != platform.Local {
			t.Errorf("%s: modes %d, %d", word, p.Mode(0), p.Mode(1))
		}
	}
	put(t, p, 1, `{"cmd":"mode","mode":"none"}`+"\n", failed(api.ErrField, 0))
	for i := range 2 {
		ok(t, "Load", p.Load(i, api.Rules{Systems: []api.System{{Qps: -1, Threads: -1, Rt: -1, Load: 900, Cpu: 500}}}))
	}
	inbound := func(c *api.Call) { c.Inbound = true }
	enter(t, p, 1, call(inbound), passed(1, 1))
	put(t, p, 1, `{"cmd":"sample","load":0,"cpu":501}`+"\n", fine)
	enter(t, p, 1, call(inbound), platform.Entered{Ticket: 2, Verdict: api.Verdict{Reason: api.BySystem}})
	enter(t, p, 0, call(inbound), passed(1, 1))
	put(t, p, 1, `{"cmd":"sample","load":901,"cpu":500}`+"\n", fine)
	enter(t, p, 1, call(inbound), passed(3, 2))
	enter(t, p, 1, call(inbound), platform.Entered{Ticket: 4, Verdict: api.Verdict{Reason: api.BySystem}})
	put(t, p, 1, `{"cmd":"sample","load":901}`+"\n", failed(api.ErrField, 0))
}

// anyLine is a command, or something like it.
func anyLine(t *testing.T, r *rand.Rand) string {
	t.Helper()
	s, err := command.Print(pick(r,
		command.Command{Kind: command.Push, Rules: api.Rules{Flows: []api.Flow{flowOf(r.Intn(9))}}},
		command.Command{Kind: command.Fetch},
		command.Command{Kind: command.GetMetrics, Resource: pick(r, "", "a", "b", "x")},
		command.Command{Kind: command.Top, K: r.Intn(4)},
		command.Command{Kind: command.SetMode, Mode: 1 + r.Intn(3)},
		command.Command{Kind: command.Sample, Load: r.Intn(9), Cpu: r.Intn(9)}))
	ok(t, "Print", err)
	b := []byte(s)
	switch r.Intn(6) {
	case 0:
		b[r.Intn(len(b))] = byte(r.Intn(256))
	case 1:
		b = b[:r.Intn(len(b))]
	}
	return string(b) + pick(r, "\n", "\n", "\r\n")
}

// P25.7, E8: bytes of any kind, cut in any way: an answer that is ok is what its command does; of another one nothing changes; nothing at all changes of another program.
func TestPushed(t *testing.T) {
	pushes, wrong := 0, 0
	for seed := range int64(100) {
		r := rand.New(rand.NewSource(seed))
		p := newPlatform(t, 2)
		for i := range 2 {
			enter(t, p, i, call(), passed(1, 1))
			enter(t, p, i, call(resource("b")), passed(2, 2))
		}
		other := seenOf(p, 1)
		for range 30 {
			line := anyLine(t, r)
			was := seenOf(p, 0)
			inOne, whole := p.Fork(), []string(nil)
			for _, l := range strings.SplitAfter(line, "\n") {
				answers, err := inOne.Put(0, []byte(l)...)
				ok(t, "Put", err)
				whole = append(whole, answers...)
			}
			var answers []string
			for rest := []byte(line); len(rest) > 0; {
				n := 1 + r.Intn(len(rest))
				told, err := p.Put(0, rest[:n]...)
				ok(t, "Put", err)
				answers, rest = append(answers, told...), rest[n:]
			}
			if !slices.Equal(answers, whole) || seen(p) != seen(inOne) {
				t.Fatalf("%q: %q, but cut elsewhere %q", line, answers, whole)
			}
			for _, a := range answers {
				isOk, e, _, _, err := command.Answer(a)
				c, wants, at := command.Parse(strings.TrimRight(line, "\r\n"))
				if err != api.OK || len(answers) == 1 && e != wants && !(c.Kind == command.GetMetrics && e == api.ErrNone) || isOk != (e == api.OK) {
					t.Fatalf("%q: %s, but Parse tells %v, %d", line, a, wants, at)
				}
				if now, _ := p.Engine(0).Rules(); isOk && len(answers) == 1 && c.Kind == command.Push {
					pushes++
					if !rules.Same(now, c.Rules) {
						t.Fatalf("%q: the rules are %+v", line, now)
					}
				}
				if !isOk && len(answers) == 1 {
					wrong++
					if seenOf(p, 0) != was {
						t.Fatalf("%q: it is not ok, and changes something", line)
					}
				}
			}
		}
		if seenOf(p, 1) != other {
			t.Error("something of the other program changed")
		}
	}
	if pushes < 200 || wrong < 300 {
		t.Errorf("%d pushes, %d are not ok", pushes, wrong)
	}
}

func pick[T any](r *rand.Rand, l ...T) T { return l[r.Intn(len(l))] }

// P25.4, E9: the rules that a fetch tells are those that a push of them loads.
func TestFetchOfPush(t *testing.T) {
	p := newPlatform(t, 1)
	r := api.Rules{Flows: []api.Flow{flowOf(3), flowOf(math.MaxInt32, asking(9))}, Breaks: []api.Break{{Resource: "b", Grade: api.ErrorRatio, Count: 5, Least: 1, Window: second, Recover: second}}}
	s, err := command.Print(command.Command{Kind: command.Push, Rules: r})
	ok(t, "Print", err)
	put(t, p, 0, s+"\n", fine)
	l, err := p.Put(0, []byte("{\"cmd\":\"fetch\"}\n")...)
	ok(t, "Put", err)
	isOk, _, _, v, _ := command.Answer(l[0])
	told, there := json.Get(v, "rules")
	back, err, _, _ := rulejson.FromValue(told)
	if !isOk || !there || err != api.OK || !rules.Same(back, r) {
		t.Errorf("%q: %+v, %v", l, back, err)
	}
}
