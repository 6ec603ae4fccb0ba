package tree_test

import (
	"slices"

	"spillway/api"
	"spillway/rules"
	"spillway/tree"
)

// event is what was noted at all nodes of a call.
type event struct {
	at     int
	keys   []tree.Key
	counts api.Counts
	flight int
}

// model is a tree as the document tells of it: all that happened, and nothing reckoned ahead.
type model struct {
	keys   []tree.Key
	events []event
	last   int
}

func (m *model) fork() *model {
	return &model{slices.Clone(m.keys), slices.Clone(m.events), m.last}
}

// keysOf are the keys of a call, if its names are.
func keysOf(c api.Call) ([]tree.Key, api.Errno) {
	for _, name := range []string{c.Resource, c.Context} {
		if !rules.IsName(name) {
			return nil, api.ErrName
		}
	}
	l := []tree.Key{{tree.Inner, c.Context, c.Resource, ""}, {tree.Cluster, "", c.Resource, ""}}
	if c.Origin != "" {
		if !rules.IsName(c.Origin) {
			return nil, api.ErrName
		}
		l = append(l, tree.Key{Kind: tree.Source, Resource: c.Resource, Origin: c.Origin})
	}
	l = append(l, tree.Key{Kind: tree.Entrance, Context: c.Context})
	if c.Inbound {
		l = append(l, tree.Key{Kind: tree.Whole})
	}
	return l, api.OK
}

// fresh are those keys that have no node, each once.
func (m *model) fresh(keys []tree.Key) []tree.Key {
	var l []tree.Key
	for _, k := range keys {
		if !slices.Contains(m.keys, k) && !slices.Contains(l, k) {
			l = append(l, k)
		}
	}
	return l
}

func (m *model) touch(calls ...api.Call) api.Errno {
	var all []tree.Key
	for _, c := range calls {
		keys, err := keysOf(c)
		if err != api.OK {
			return err
		}
		all = append(all, keys...)
	}
	fresh := m.fresh(all)
	if len(m.keys)+len(fresh) > api.MaxNodes {
		return api.ErrFull
	}
	m.keys = append(m.keys, fresh...)
	return api.OK
}

// flight is how many entries of a node are not over.
func (m *model) flight(k tree.Key) int {
	n := 0
	for _, e := range m.events {
		if slices.Contains(e.keys, k) {
			n += e.flight
		}
	}
	return n
}

// sum is what the document calls the second's counts of a node: of the bucket of a tenth of a second in which the time lies, and the nine ahead.
func (m *model) sum(at int, k tree.Key) api.Counts {
	const tenth = api.Second / 10
	var c api.Counts
	for _, e := range m.events {
		if !slices.Contains(e.keys, k) || e.at/tenth > at/tenth || e.at/tenth < at/tenth-9 {
			continue
		}
		if e.counts.Done > 0 && (c.Done == 0 || e.counts.MinRt < c.MinRt) {
			c.MinRt = e.counts.MinRt
		}
		c.Pass += e.counts.Pass
		c.Block += e.counts.Block
		c.Done += e.counts.Done
		c.Errors += e.counts.Errors
		c.RtSum += e.counts.RtSum
	}
	return c
}

// mayNote is the error of what notes a call, as far as it hangs on its numbers and times.
func (m *model) mayNote(c api.Call, number, lo, hi int) api.Errno {
	_, err := keysOf(c)
	switch {
	case err != api.OK:
		return err
	case c.At < 0 || c.At > 1<<60 || number < lo || number > hi:
		return api.ErrRange
	case c.At < m.last:
		return api.ErrBack
	}
	return api.OK
}

func (m *model) note(c api.Call, counts api.Counts, flight int) api.Errno {
	keys, _ := keysOf(c)
	if err := m.touch(c); err != api.OK {
		return err
	}
	m.events = append(m.events, event{c.At, keys, counts, flight})
	m.last = c.At
	return api.OK
}

func (m *model) pass(c api.Call) api.Errno {
	if err := m.mayNote(c, c.Count, 1, 1<<40); err != api.OK {
		return err
	}
	keys, _ := keysOf(c)
	for _, k := range keys {
		if m.flight(k) == api.MaxEntries {
			return api.ErrFull
		}
	}
	return m.note(c, api.Counts{Pass: c.Count}, 1)
}

func (m *model) block(c api.Call) api.Errno {
	if err := m.mayNote(c, c.Count, 1, 1<<40); err != api.OK {
		return err
	}
	return m.note(c, api.Counts{Block: c.Count}, 0)
}

func (m *model) done(c api.Call, rt int, failed bool) api.Errno {
	if err := m.mayNote(c, rt, 0, 1<<60); err != api.OK {
		return err
	}
	keys, _ := keysOf(c)
	for _, k := range keys {
		if m.flight(k) == 0 {
			return api.ErrNone
		}
	}
	counts := api.Counts{Done: 1, RtSum: rt, MinRt: rt}
	if failed {
		counts.Errors = 1
	}
	return m.note(c, counts, -1)
}
