package platform_test

import (
	"fmt"
	"math/rand"
	"slices"
	"strconv"
	"strings"
	"testing"

	"spillway/api"
	"spillway/client"
	"spillway/cluster"
	"spillway/command"
	"spillway/platform"
	"spillway/reject"
	"spillway/rulejson"
	"spillway/slots"
)

// record is a call that had a ticket: the rules that ask for it, what they were answered by now, and the number of the request that waits, if it is pending.
type record struct {
	call     api.Call
	rules    []int
	ids      []int
	answers  []api.Status
	request  int
	isPended bool
	became   platform.Entered
}

// member is a program: all of its calls that had a ticket, in order, and which of them are to be told.
type member struct {
	engine  *slots.Engine
	mode    platform.Mode
	line    string
	records []record
	untold  []int
}

// model is a platform as the document tells of it, on a cluster and engines of its own: it keeps all calls that ever were, with all of their answers.
type model struct {
	cluster *cluster.Cluster
	members []*member
}

func newModel(t *testing.T, at, programs int, s client.Setting, keys int, seed uint64) *model {
	t.Helper()
	c, err := cluster.New(at, programs, s)
	ok(t, "cluster.New", err)
	m := &model{cluster: c}
	for range programs {
		e, err := slots.New(keys, seed)
		ok(t, "slots.New", err)
		m.members = append(m.members, &member{engine: e, mode: platform.Local})
	}
	return m
}

func (m *model) fork() *model {
	f := &model{cluster: m.cluster.Fork()}
	for _, one := range m.members {
		c := *one
		c.engine, c.untold, c.records = one.engine.Fork(), slices.Clone(one.untold), nil
		for _, r := range one.records {
			r.answers = slices.Clone(r.answers)
			c.records = append(c.records, r)
		}
		f.members = append(f.members, &c)
	}
	return f
}

// decide is what becomes of a call by its answers.
func (m *model) decide(one *member, r *record) {
	r.request = 0
	last := len(r.answers) - 1
	if last >= 0 && r.answers[last] == api.Refused {
		r.became.Verdict = api.Verdict{Reason: api.ByFlow, Rule: r.rules[last]}
		return
	}
	isGranted := func(s api.Status) bool { return s == api.Granted }
	r.became.Granted = len(r.rules) > 0 && len(r.answers) == len(r.rules) && !slices.ContainsFunc(r.answers, func(s api.Status) bool { return !isGranted(s) })
	r.call.At = m.cluster.Now()
	r.became.Number, r.became.Verdict, r.became.Errno = one.engine.Enter(r.call, r.became.Granted)
}

// ask lets the next rule ask by a client.
func (m *model) ask(i int, one *member, r *record) {
	q := api.Request{Want: api.WantFlow, Flow: r.ids[len(r.answers)], Count: r.call.Count}
	n, falls, err := m.cluster.Do(cluster.Op{Kind: cluster.Ask, Client: i, Request: q})
	if falls || err != api.OK {
		r.answers = append(r.answers, 0)
		m.decide(one, r)
		return
	}
	r.request, r.isPended = n, true
}

func (one *member) pending() []int {
	var l []int
	for n, r := range one.records {
		if r.request > 0 {
			l = append(l, n+1)
		}
	}
	return l
}

func (m *model) enter(i int, c api.Call) (platform.Entered, api.Errno) {
	one := m.members[i]
	c.At = m.cluster.Now()
	if _, _, err := one.engine.Fork().Enter(c, true); err != api.OK {
		return platform.Entered{}, err
	}
	if len(one.pending()) >= api.MaxPending {
		return platform.Entered{}, api.ErrFull
	}
	r := record{call: c, became: platform.Entered{Ticket: len(one.records) + 1}}
	all, _ := one.engine.Rules()
	for _, n := range reject.Mine(all.Flows, c) {
		if f := all.Flows[n]; f.Cluster && one.mode != platform.Local {
			r.rules, r.ids = append(r.rules, n), append(r.ids, f.Id)
		}
	}
	switch {
	case len(r.rules) == 0:
		m.decide(one, &r)
	case one.mode == platform.Client:
		m.ask(i, one, &r)
	default:
		for _, id := range r.ids {
			a, _ := m.cluster.Direct(i, api.Request{Want: api.WantFlow, Flow: id, Count: c.Count})
			if r.answers = append(r.answers, a.Status); a.Status != api.Granted {
				break
			}
		}
		m.decide(one, &r)
	}
	one.records = append(one.records, r)
	if r.request > 0 {
		return platform.Entered{Ticket: len(one.records), Pending: true}, api.OK
	}
	return r.became, api.OK
}

func (m *model) do(o cluster.Op) api.Errno {
	if o.Kind == cluster.Ask {
		return api.ErrForm
	}
	_, _, err := m.cluster.Do(o)
	for i, one := range m.members {
		for _, k := range m.cluster.Told(i) {
			n := slices.IndexFunc(one.records, func(r record) bool { return r.request == k.Id })
			r := &one.records[n]
			r.request = 0
			r.answers = append(r.answers, k.Answer.Status)
			if k.Answer.Status == api.Granted && len(r.answers) < len(r.rules) {
				m.ask(i, one, r)
			} else {
				m.decide(one, r)
			}
			if r.request == 0 {
				one.untold = append(one.untold, n)
			}
		}
	}
	return err
}

func (one *member) decided() []platform.Entered {
	var l []platform.Entered
	for _, n := range one.untold {
		l = append(l, one.records[n].became)
	}
	one.untold = nil
	return l
}

// metricText is the text of a resource's metric.
func (m *model) metricText(one *member, name string) string {
	c, _ := one.engine.Counts(m.cluster.Now(), name)
	return fmt.Sprintf(`{"resource":%s,"pass":%d,"block":%d,"done":%d,"errors":%d,"rt":%d,"min":%d,"flight":%d}`,
		strconv.Quote(name), c.Pass, c.Block, c.Done, c.Errors, c.RtSum, c.MinRt, one.engine.Flight(name))
}

func (m *model) metricTexts(one *member, name string, l []string) string {
	var all []string
	for _, r := range l {
		all = append(all, m.metricText(one, r))
	}
	return `{"ok":true,"` + name + `":[` + strings.Join(all, ",") + "]}"
}

// obey is the answer to a line.
func (m *model) obey(one *member, line string) string {
	c, err, at := command.Parse(line)
	if err != api.OK {
		return failed(err, at)
	}
	names := one.engine.Resources()
	switch c.Kind {
	case command.Push:
		one.engine.Load(c.Rules)
	case command.Fetch:
		r, n := one.engine.Rules()
		s, err := rulejson.Encode(r)
		if err != api.OK {
			return failed(err, 0)
		}
		return fmt.Sprintf(`{"ok":true,"rules":%s,"version":%d}`, s, n)
	case command.GetMetrics:
		if c.Resource == "" {
			return m.metricTexts(one, "metrics", names)
		}
		if !slices.Contains(names, c.Resource) {
			return failed(api.ErrNone, 0)
		}
		return m.metricTexts(one, "metrics", []string{c.Resource})
	case command.Top:
		var best []string
		for len(best) < min(c.K, len(names)) {
			most, which := -1, ""
			for _, name := range names {
				if counts, _ := one.engine.Counts(m.cluster.Now(), name); counts.Pass > most && !slices.Contains(best, name) {
					most, which = counts.Pass, name
				}
			}
			best = append(best, which)
		}
		return m.metricTexts(one, "top", best)
	case command.SetMode:
		one.mode = platform.Mode(c.Mode)
	case command.Sample:
		one.engine.Sample(c.Load, c.Cpu)
	}
	return fine
}

// put takes a text of short lines.
func (m *model) put(i int, text string) []string {
	one := m.members[i]
	var answers []string
	lines := strings.Split(one.line+text, "\n")
	for _, line := range lines[:len(lines)-1] {
		if line = strings.TrimSuffix(line, "\r"); line != "" {
			answers = append(answers, m.obey(one, line))
		}
	}
	one.line = lines[len(lines)-1]
	return answers
}

// seen is what seen tells of a platform that stands so.
func (m *model) seen() string {
	c := m.cluster
	l := fmt.Sprint(c.Now(), c.Up(), c.Grants(), c.Server().Conns(), c.Server().Flows("cluster"))
	for i, one := range m.members {
		e, f := one.engine, m.fork()
		out, back := c.Way(i)
		r, version := e.Rules()
		l += "\n" + fmt.Sprint(one.mode, one.pending(), f.members[i].decided(), e.Open(), e.Last(), r, version, c.Connected(i), c.Waiting(i), c.Fork().Told(i), out, back)
		for _, name := range e.Resources() {
			counts, err := e.Counts(c.Now(), name)
			l += fmt.Sprint(" ", name, counts, err, e.Flight(name))
		}
		l += fmt.Sprint(f.put(i, "\n{\"cmd\":\"fetch\"}\n"), api.OK)
	}
	return l
}

// P25.1 to P25.5: platforms do with scripts of any kind what the document tells of them, and forks of them too.
func TestModel(t *testing.T) {
	counted := map[string]int{}
	for seed := range int64(80) {
		runScript(t, rand.New(rand.NewSource(seed)), seed%5 == 0, counted)
	}
	for _, what := range []string{
		"forked", "enter 1 passed", "enter 1 blocked", "enter 2 pending", "enter 2 passed", "enter 2 blocked", "enter 3 granted", "enter 3 blocked by the server", "enter 3 passed",
		"enter refused", "decided granted", "decided blocked by the server", "decided blocked", "decided passed", "decided behind 2", "do refused", "do granted", "put ok", "put failed", "exit", "load", "no room",
	} {
		if counted[what] < 10 {
			t.Errorf("%s: %d times", what, counted[what])
		}
	}
	t.Log(counted)
}
