package token_test

import (
	"slices"

	"spillway/api"
	"spillway/proto"
	"spillway/token"
)

// granted is what was granted of an Id, and when.
type granted struct {
	at, id, count int
	place         place // of a value
}

// model is a server as the document tells of it: it keeps all that was granted, and reckons anew what is used.
type model struct {
	begun, last int
	names       []string
	flows       map[string][]token.Flow
	conns       map[int]string
	kinds       map[int]token.Kind // of each Id that it ever had
	grants      []granted          // that count
	tokens      []token.Token      // that were not given back
	given       int
	placeOf     func(id int, text string) place
}

func newModel(at int, placeOf func(id int, text string) place) *model {
	return &model{begun: at, last: at, flows: map[string][]token.Flow{}, conns: map[int]string{}, kinds: map[int]token.Kind{}, placeOf: placeOf}
}

func (m *model) fork() *model {
	fork := *m
	fork.names, fork.grants, fork.tokens = slices.Clone(m.names), slices.Clone(m.grants), slices.Clone(m.tokens)
	fork.flows, fork.conns, fork.kinds = map[string][]token.Flow{}, map[int]string{}, map[int]token.Kind{}
	for name, l := range m.flows {
		fork.flows[name] = l
	}
	for conn, name := range m.conns {
		fork.conns[conn] = name
	}
	for id, k := range m.kinds {
		fork.kinds[id] = k
	}
	return &fork
}

// of is the flow of an Id, and its namespace.
func (m *model) of(id int) (token.Flow, string, bool) {
	for name, l := range m.flows {
		for _, f := range l {
			if f.Id == id {
				return f, name, true
			}
		}
	}
	return token.Flow{}, "", false
}

func (m *model) load(name string, l []token.Flow) api.Errno {
	all, ids := 0, map[int]bool{}
	for id := range m.kinds {
		ids[id] = true
	}
	seen := map[int]bool{}
	for _, f := range l {
		if !token.Right(f) {
			return api.ErrForm
		}
	}
	for _, f := range l {
		if _, other, is := m.of(f.Id); seen[f.Id] || is && other != name {
			return api.ErrTwice
		}
		seen[f.Id], ids[f.Id] = true, true
	}
	for other, fs := range m.flows {
		if other != name {
			all += len(fs)
		}
	}
	isNew := !slices.Contains(m.names, name)
	if all+len(l) > api.MaxRules || isNew && len(m.names) == api.MaxClients || len(ids) > api.MaxNodes {
		return api.ErrFull
	}
	if isNew {
		m.names = append(m.names, name)
	}
	m.flows[name] = slices.Clone(l)
	for _, f := range l {
		if m.kinds[f.Id] != f.Kind {
			m.grants = slices.DeleteFunc(m.grants, func(g granted) bool { return g.id == f.Id })
		}
		m.kinds[f.Id] = f.Kind
	}
	return api.OK
}

func (m *model) restart(at int) {
	m.begun, m.last = at, at
	m.conns, m.grants, m.tokens = map[int]string{}, nil, nil
}

func (m *model) out(at int) []token.Token {
	var l []token.Token
	for _, one := range m.tokens {
		if one.Until > at {
			l = append(l, one)
		}
	}
	return l
}

// used is what is used of a flow at a time: of a value the least, over all rows, of what was granted in its column.
func (m *model) used(at int, f token.Flow, text string) int {
	var sums [rows]int
	for _, g := range m.grants {
		if g.id != f.Id || g.at/(second/10) < at/(second/10)-9 {
			continue
		}
		for row, column := range m.placeOf(f.Id, text) {
			if f.Kind == token.Rate || g.place[row] == column {
				sums[row] += g.count
			}
		}
	}
	if f.Kind != token.Lease {
		return slices.Min(sums[:])
	}
	n := 0
	for _, one := range m.out(at) {
		if one.Id == f.Id {
			n += one.Count
		}
	}
	return n
}

func (m *model) quiet(at, id int) bool {
	f, _, is := m.of(id)
	return is && at < m.begun+max(second, f.Lease)
}

func (m *model) do(at, conn int, r api.Request) api.Answer {
	m.last = at
	a := m.answer(at, conn, r)
	a.Id = r.Id
	return a
}

func (m *model) answer(at, conn int, r api.Request) api.Answer {
	if !proto.Right(r) {
		return api.Answer{Status: api.Bad}
	}
	if r.Want == api.Hello {
		m.conns[conn] = ""
		if !slices.Contains(m.names, r.Text) {
			return api.Answer{Status: api.Unknown}
		}
		m.conns[conn] = r.Text
		return api.Answer{Status: api.Granted}
	}
	name := m.conns[conn]
	if name == "" {
		return api.Answer{Status: api.Unknown}
	}
	if r.Want == api.GiveBack {
		for i, one := range m.tokens {
			if _, of, _ := m.of(one.Id); one.Number == r.Token && one.Until > at && of == name {
				m.tokens = slices.Delete(m.tokens, i, i+1)
				return api.Answer{Status: api.Released}
			}
		}
		return api.Answer{Status: api.Unknown}
	}
	f, of, _ := m.of(r.Flow)
	if of != name || f.Kind != token.Kind(r.Want) {
		return api.Answer{Status: api.Unknown}
	}
	if m.quiet(at, f.Id) {
		return api.Answer{Status: api.Quiet}
	}
	return m.grant(at, f, r)
}

func (m *model) grant(at int, f token.Flow, r api.Request) api.Answer {
	u := m.used(at, f, r.Text)
	switch {
	case u > f.Count:
		return api.Answer{Status: api.Refused}
	case u+r.Count > f.Count:
		return api.Answer{Status: api.Refused, Left: f.Count - u}
	case f.Kind == token.Lease && len(m.out(at)) >= api.MaxTokens:
		return api.Answer{Status: api.TooMany}
	}
	a := api.Answer{Status: api.Granted, Left: f.Count - u - r.Count}
	if f.Kind != token.Lease {
		m.grants = append(m.grants, granted{at, f.Id, r.Count, m.placeOf(f.Id, r.Text)})
		return a
	}
	m.given++
	m.tokens = append(m.tokens, token.Token{Number: m.given, Id: f.Id, Count: r.Count, Until: at + f.Lease})
	a.Token, a.Wait = m.given, f.Lease
	return a
}
