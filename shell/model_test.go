package shell_test

import (
	"fmt"
	"math/rand"
	"strings"
	"testing"

	"spillway/api"
	"spillway/client"
	"spillway/cluster"
	"spillway/platform"
	"spillway/rulejson"
	"spillway/shell"
	"spillway/token"
)

// writer writes a script line by line, and beside it does with a platform of its own what the lines say: what they must answer.
type writer struct {
	*platform.Platform
	r       *rand.Rand
	flows   []token.Flow
	script  strings.Builder
	answers strings.Builder
	counted map[string]int
}

// writes is a line, with blanks more at times, and what it must answer.
func (w *writer) writes(answer, format string, parts ...any) {
	line := fmt.Sprintf(format, parts...)
	if first := strings.Fields(answer)[0]; first[0] >= 'a' && first[0] <= 'z' {
		w.counted[strings.Fields(line)[0]+" "+first]++
	}
	if w.r.Intn(9) == 0 && !strings.HasPrefix(line, "rules") && !strings.HasPrefix(line, "put") {
		line = " " + strings.ReplaceAll(line, " ", "   ") + "  "
	}
	w.script.WriteString(line + "\n")
	w.answers.WriteString(answer + "\n")
}

func said(err api.Errno) string {
	if err == api.OK {
		return "ok"
	}
	return fmt.Sprint("error ", int(err))
}

func became(e platform.Entered, err api.Errno) string {
	reasons := map[api.Reason]string{api.ByList: "list", api.BySystem: "system", api.ByHot: "hot", api.ByFlow: "flow", api.ByBreaker: "breaker"}
	switch {
	case err != api.OK:
		return said(err)
	case e.Pending:
		return fmt.Sprint("pending ", e.Ticket)
	case e.Errno != api.OK:
		return said(e.Errno)
	case e.Verdict.Reason != api.Passed:
		return fmt.Sprint("block ", reasons[e.Verdict.Reason], " ", e.Verdict.Rule)
	case e.Granted:
		return fmt.Sprint("pass ", e.Number, " ", e.Verdict.Wait, " granted")
	}
	return fmt.Sprint("pass ", e.Number, " ", e.Verdict.Wait)
}

// orNone is lines, or words, of an answer.
func orNone(l []string, between string) string {
	if len(l) == 0 {
		return "none"
	}
	return strings.Join(l, between)
}

func words(l []int) []string {
	var all []string
	for _, n := range l {
		all = append(all, fmt.Sprint(n))
	}
	return all
}

func (w *writer) platform() {
	n, keys, seed := pick(w.r, 0, 1, 2, 3, 3, 9), pick(w.r, 0, 1, 16, 16, 16), w.r.Int63n(1<<62)
	p, err := platform.New(0, n, client.Setting{Timeout: 500000, Least: 100000, Most: 1000000}, keys, uint64(seed))
	if err == api.OK {
		w.Platform, w.flows = p, nil
	}
	w.writes(said(err), "platform %d %d %d", n, keys, seed)
}

// says is a line that needs a platform.
func (w *writer) says(answer func() string, format string, parts ...any) {
	if w.Platform == nil {
		w.writes("none", format, parts...)
		return
	}
	w.writes(answer(), format, parts...)
}

func (w *writer) flow() {
	f := token.Flow{Id: w.r.Intn(4), Count: pick(w.r, 1, 5, 90), Kind: pick(w.r, token.Rate, token.Rate, token.Value, token.Lease)}
	word := map[token.Kind]string{token.Rate: "rate", token.Value: "value", token.Lease: "lease"}[f.Kind]
	lease := ""
	if w.r.Intn(3) == 0 {
		f.Lease = pick(w.r, 0, api.Second)
		lease = fmt.Sprint(" ", f.Lease)
	}
	w.says(func() string {
		var next []token.Flow
		isThere := false
		for _, kept := range w.flows {
			if kept.Id == f.Id {
				kept, isThere = f, true
			}
			next = append(next, kept)
		}
		if !isThere {
			next = append(next, f)
		}
		err := w.Flows(next...)
		if err == api.OK {
			w.flows = next
		}
		return said(err)
	}, "flow %d %s %d%s", f.Id, word, f.Count, lease)
}

func (w *writer) op(i int) {
	n := pick(w.r, 0, 1, w.r.Intn(90), 1000, 1000)
	line, o := "", cluster.Op{Client: i}
	switch k := w.r.Intn(40); {
	case k < 8:
		at := w.Now() + pick(w.r, 0, 1, w.r.Intn(2000), w.r.Intn(200000), api.Second, -min(1, w.Now()))
		line, o = fmt.Sprint("tick ", at), cluster.Op{Kind: cluster.Tick, At: at}
	case k < 16:
		line, o.Kind = fmt.Sprint("dial ", i), cluster.Dial
	case k < 25:
		line, o.Kind, o.Bytes = fmt.Sprint("toserver ", i, " ", n), cluster.ToServer, n
	case k < 36:
		line, o.Kind, o.Bytes = fmt.Sprint("toclient ", i, " ", n), cluster.ToClient, n
	case k < 37:
		line, o.Kind = fmt.Sprint("cut ", i), cluster.Cut
	case k < 38 && w.r.Intn(3) == 0:
		line, o = "stop", cluster.Op{Kind: cluster.Stop}
	default:
		line, o = "start", cluster.Op{Kind: cluster.Start}
	}
	w.says(func() string { return said(w.Do(o)) }, "%s", line)
}

func (w *writer) rules(i int) {
	text := pick(w.r, "", " ") + pick(w.r,
		`{"flow":[{"resource":"a","count":3,"cluster":true,"id":1,"fallback":true},{"resource":"b","count":2}]}`,
		`{"flow":[{"resource":"a","count":9,"cluster":true,"id":2},{"resource":"a","cluster":true,"id":1},{"resource":"a","count":4,"shape":"pace","queue":900000}]}`,
		`{"flow":[{"resource":"a","count":9,"cluster":true,"id":1}],"hot":[{"resource":"b","count":3,"seconds":1}],"break":[{"resource":"b","grade":"count","least":1,"window":1000000,"recover":1000000}]}`,
		`{"system":[{"cpu":3}],"authority":[{"resource":"b","origins":["x"]}]}`,
		`{}`, `x`, `{"flow":[{}]}`, `{"flow":[1 2]}`, ` [`) + pick(w.r, "", "  ")
	w.says(func() string {
		r, err, at := rulejson.Decode(text)
		if err != api.OK {
			return fmt.Sprint("error ", int(err), " ", at)
		}
		return said(w.Load(i, r))
	}, "rules %d %s", i, text)
}

func (w *writer) mode(i int) {
	word := pick(w.r, "local", "client", "client", "server")
	m := map[string]platform.Mode{"local": 1, "client": 2, "server": 3}[word]
	w.says(func() string { return said(w.SetMode(i, m)) }, "mode %d %s", i, word)
}

func (w *writer) enter(i int) {
	c := api.Call{Resource: pick(w.r, "a", "a", "a", "b", "c", "é"), Context: pick(w.r, "main", "side"), Origin: pick(w.r, "", "x"), Inbound: w.r.Intn(2) == 0, Count: w.r.Intn(4)}
	origin, way := c.Origin, "out"
	if origin == "" {
		origin = "-"
	}
	if c.Inbound {
		way = "in"
	}
	for range w.r.Intn(3) {
		c.Args = append(c.Args, pick(w.r, "u", "v", "#"))
	}
	w.says(func() string { return became(w.Enter(i, c)) }, "enter %d %s %s %s %s %d%s", i, c.Resource, c.Context, origin, way, c.Count, strings.Join(append([]string{""}, c.Args...), " "))
}

func (w *writer) exit(i int) {
	n, word := w.r.Intn(12), pick(w.r, "ok", "bad")
	w.says(func() string { return said(w.Exit(i, n, word == "bad")) }, "exit %d %d %s", i, n, word)
}

func (w *writer) put(i int) {
	text := pick(w.r, `{"cmd":"fetch"}`, `{"cmd":"metrics"}`, `{"cmd":"metrics","resource":"b"}`, `{"cmd":"top","k":2}`, `{"cmd":"mode","mode":"client"}`,
		`{"cmd":"sample","load":1,"cpu":4}`, `{"cmd":"push","rules":{"flow":[{"resource":"a","count":9,"cluster":true,"id":1}]}}`, `{"cmd":"x"}`, "\r", "x") + pick(w.r, "", "\r", " ")
	w.says(func() string {
		l, err := w.Put(i, []byte(text+"\n")...)
		if err != api.OK {
			return said(err)
		}
		return orNone(l, "\n")
	}, "put %d %s", i, text)
}

// asks is a line that changes nothing.
func (w *writer) asks(i int) {
	isThere := w.Mode(i) != 0
	line := ""
	answer := func() string { return "error 2" }
	of := func(name string, is func() string) {
		line = fmt.Sprint(name, " ", i)
		if isThere {
			answer = is
		}
	}
	switch w.r.Intn(6) {
	case 0:
		of("pending", func() string { return orNone(words(w.Pending(i)), " ") })
	case 1:
		of("open", func() string { return orNone(words(w.Engine(i).Open()), " ") })
	case 2:
		name := pick(w.r, "a", "b", "zz")
		of("counts", func() string {
			e := w.Engine(i)
			c, err := e.Counts(w.Now(), name)
			if err != api.OK {
				return said(err)
			}
			return fmt.Sprint(c.Pass, c.Block, c.Done, c.Errors, c.RtSum, c.MinRt, e.Flight(name))
		})
		line += " " + name
	case 3:
		line, answer = "grants", func() string {
			var l []string
			for _, g := range w.Cluster().Grants() {
				l = append(l, fmt.Sprint(g.At, g.Client, g.Id, g.Request.Flow, g.Request.Count))
			}
			return orNone(l, "\n")
		}
	case 4:
		line, answer = "now", func() string {
			return fmt.Sprint(w.Now(), " ", map[bool]string{true: "up", false: "down"}[w.Cluster().Up()])
		}
	case 5:
		of("see", func() string {
			c := w.Cluster()
			mode := []string{"", "local", "client", "server"}[w.Mode(i)]
			return fmt.Sprint(map[bool]string{true: "up", false: "down"}[c.Connected(i)], " ", mode, " ", len(c.Waiting(i)))
		})
	}
	w.says(answer, "%s", line)
}

func (w *writer) decided(i int) {
	w.says(func() string {
		if w.Mode(i) == 0 {
			return "error 2"
		}
		var l []string
		for _, e := range w.Decided(i) {
			l = append(l, fmt.Sprint(e.Ticket, " ", became(e, api.OK)))
		}
		return orNone(l, "\n")
	}, "decided %d", i)
}

func (w *writer) step() {
	i := pick(w.r, 0, 0, 0, 1, 1, 2, 3)
	switch n := w.r.Intn(200); {
	case n < 2:
		w.platform()
	case n < 10:
		w.flow()
	case n < 70:
		w.op(i)
	case n < 80:
		w.rules(i)
	case n < 86:
		w.mode(i)
	case n < 130:
		w.enter(i)
	case n < 140:
		w.exit(i)
	case n < 150:
		w.decided(i)
	case n < 160:
		w.put(i)
	case n < 190:
		w.asks(i)
	case n < 194:
		w.script.WriteString(pick(w.r, "\n", "  \n", "# now\n", " #\n"))
	default:
		w.writes("word", "%s", pick(w.r, "x", "now now", "enter 0 a", "tick -1", "mode 0 x", "see 01", "put 0 ", "exit 0 1 no"))
	}
}

// written is a script of so many steps, or as many as may be, and what it answers.
func written(seed int64, steps int, counted map[string]int) (script, answers string) {
	w := &writer{r: rand.New(rand.NewSource(seed)), counted: counted}
	if w.r.Intn(10) > 0 {
		w.platform()
	}
	for range 4 {
		w.flow()
	}
	for i := range 2 {
		w.rules(i)
		w.mode(i)
	}
	w.says(func() string { return said(w.Do(cluster.Op{Kind: cluster.Tick, At: api.Second})) }, "tick 1000000")
	for n := 0; n < steps && w.script.Len() < api.MaxScript-300; n++ {
		w.step()
	}
	return w.script.String(), w.answers.String()
}

// P26.1: scripts of any kind answer what the calls tell that they say.
func TestModel(t *testing.T) {
	counted := map[string]int{}
	for seed := range int64(250) {
		script, want := written(seed, 900, counted)
		got := shell.Run(script)
		if got != want {
			n := 0
			is, must := strings.Split(got, "\n"), strings.Split(want, "\n")
			for n < min(len(is), len(must))-1 && is[n] == must[n] {
				n++
			}
			t.Fatalf("the script %d: the answer %d is %q, want %q, behind %q", seed, n, is[n], must[n], is[:n])
		}
	}
	for _, what := range []string{
		"enter pass", "enter block", "enter pending", "enter error", "enter none", "decided none", "pending none", "open none", "grants none", "put none", "put error", "see error",
		"counts error", "flow error", "platform error", "rules error", "mode error", "exit error", "dial error", "tick error", "stop ok", "start ok", "cut ok", "toserver ok", "toclient ok",
	} {
		if counted[what] < 20 {
			t.Errorf("%s: %d times", what, counted[what])
		}
	}
	t.Log(counted)
}
