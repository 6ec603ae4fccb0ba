package rulejson

import (
	"slices"
	"strconv"

	"spillway/api"
)

// fault is what is wrong, and with which rule.
type fault struct {
	err    api.Errno
	kind   api.RuleKind
	number int
}

func (f *fault) isFine() bool { return f.err == api.OK }

func (f *fault) give(err api.Errno) { f.err = err }

// needs is true; else something is wrong: what stands there is of another kind.
func (f *fault) needs(ok bool) bool {
	if !ok {
		f.give(api.ErrField)
	}
	return ok
}

// reader reads rules, as far as nothing is wrong.
type reader struct {
	fault
	rules api.Rules
}

// all reads all rules. What is wrong with the whole is told ahead of what is wrong with a rule, and rules are told of in the order of their kinds, so no rule is read ahead of the whole.
func (r *reader) all(v api.Value) {
	all := sections(&r.rules)
	var members []member
	for i := range all {
		members = append(members, all[i].member())
	}
	r.object(v, members...)
	for _, s := range all {
		for i, part := range s.found {
			if !r.isFine() {
				return
			}
			r.kind, r.number = s.kind, i
			s.add(r, part)
		}
	}
}

// object reads one; each of its members is read once, and what is missing stays as it is.
func (r *reader) object(v api.Value, members ...member) {
	if !r.needs(v.Kind == api.Object && len(v.Names) == len(v.List)) {
		return
	}
	left := slices.Clone(members)
	for i, name := range v.Names {
		at := slices.IndexFunc(left, func(m member) bool { return m.name == name })
		if !r.needs(at >= 0) {
			return
		}
		if left[at].read(r, v.List[i]); !r.isFine() {
			return
		}
		left = slices.Delete(left, at, at+1)
	}
}

// each reads the parts of an array.
func (r *reader) each(v api.Value, add func(r *reader, part api.Value)) {
	if !r.needs(v.Kind == api.Array) {
		return
	}
	for _, part := range v.List {
		if add(r, part); !r.isFine() {
			return
		}
	}
}

func (r *reader) text(v api.Value) string {
	if !r.needs(v.Kind == api.String) {
		return ""
	}
	return v.Text
}

// decimal is a number in the one form that is read.
func (r *reader) decimal(v api.Value) int {
	if !r.needs(v.Kind == api.Number) {
		return 0
	}
	n, err := strconv.Atoi(v.Text)
	if err != nil || strconv.Itoa(n) != v.Text {
		r.give(api.ErrNumber)
		return 0
	}
	return n
}
