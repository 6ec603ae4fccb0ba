package token

import (
	"slices"

	"spillway/api"
)

// space is a namespace with its flows.
type space struct {
	name  string
	flows []Flow
}

// spaces are all namespaces, in the order in which they were first loaded. None is changed: others come in their place.
type spaces []space

// with is the namespaces, if one of them, or one more, has these flows.
func (s spaces) with(name string, l []Flow) spaces {
	next := slices.Clone(s)
	loaded := space{name: name, flows: slices.Clone(l)}
	if i := s.place(name); i >= 0 {
		next[i] = loaded
		return next
	}
	return append(next, loaded)
}

// place is where a namespace stands; below 0, if there is none.
func (s spaces) place(name string) int {
	return slices.IndexFunc(s, func(one space) bool { return one.name == name })
}

// has tells whether it is a namespace.
func (s spaces) has(name string) bool { return s.place(name) >= 0 }

// flows are those of a namespace.
func (s spaces) flows(name string) []Flow {
	if i := s.place(name); i >= 0 {
		return s[i].flows
	}
	return nil
}

func (s spaces) names() []string {
	var l []string
	for _, one := range s {
		l = append(l, one.name)
	}
	return l
}

// all is the flows of all namespaces.
func (s spaces) all() []Flow {
	var l []Flow
	for _, one := range s {
		l = append(l, one.flows...)
	}
	return l
}

// flow is that of an Id, whatever its namespace.
func (s spaces) flow(id int) (Flow, bool) { return find(s.all(), id) }

// hasTwice tells whether an Id stands twice.
func (s spaces) hasTwice() bool {
	var ids []int
	for _, f := range s.all() {
		ids = append(ids, f.Id)
	}
	slices.Sort(ids)
	many := len(ids)
	return len(slices.Compact(ids)) < many
}

// isFull tells whether they are more than may be, or have more flows.
func (s spaces) isFull() bool { return len(s) > api.MaxClients || len(s.all()) > api.MaxRules }

// find is the flow of an Id.
func find(l []Flow, id int) (Flow, bool) {
	i := slices.IndexFunc(l, func(f Flow) bool { return f.Id == id })
	if i < 0 {
		return Flow{}, false
	}
	return l[i], true
}
