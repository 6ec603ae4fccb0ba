package command

import (
	"slices"

	"spillway/api"
	"spillway/json"
	"spillway/rulejson"
	"spillway/rules"
)

// part is one that a command names: whether it may be as it is, how it is told and read, and how it is left empty.
type part struct {
	name  string
	may   func(c Command) bool
	tell  func(c Command) api.Value
	read  func(c *Command, v api.Value) api.Errno
	clear func(c *Command)
}

// manner is how what is of a kind is told, read, and which of it may be.
type manner[T any] struct {
	may  func(x T) bool
	tell func(x T) api.Value
	read func(v api.Value) (T, api.Errno)
}

// partOf is a field of a command as a part of that name.
func partOf[T any](name string, field func(c *Command) *T, m manner[T]) part {
	return part{
		name: name,
		may:  func(c Command) bool { return m.may(*field(&c)) },
		tell: func(c Command) api.Value { return m.tell(*field(&c)) },
		read: func(c *Command, v api.Value) api.Errno {
			x, err := m.read(v)
			switch {
			case err != api.OK:
				return err
			case !m.may(x):
				return api.ErrField
			}
			*field(c) = x
			return api.OK
		},
		clear: func(c *Command) {
			var none T
			*field(c) = none
		},
	}
}

// ofNumber is of a whole number from 0 on.
func ofNumber(most int) manner[int] {
	return manner[int]{
		may:  func(n int) bool { return 0 <= n && n <= most },
		tell: json.OfInt,
		read: func(v api.Value) (int, api.Errno) {
			n, is := json.Whole(v)
			return n, needs(is)
		},
	}
}

// ofName is of a name.
func ofName() manner[string] {
	return manner[string]{
		may:  rules.IsName,
		tell: json.OfText,
		read: func(v api.Value) (string, api.Errno) { return v.Text, needs(v.Kind == api.String) },
	}
}

// ofWord is of which one of some words it is, from 1 on.
func ofWord(words ...string) manner[int] {
	return manner[int]{
		may:  func(n int) bool { return 1 <= n && n <= len(words) },
		tell: func(n int) api.Value { return json.OfText(words[n-1]) },
		read: func(v api.Value) (int, api.Errno) {
			return slices.Index(words, v.Text) + 1, needs(v.Kind == api.String)
		},
	}
}

// ofRules is of all rules.
func ofRules() manner[api.Rules] {
	return manner[api.Rules]{
		may: func(r api.Rules) bool {
			_, _, err := rules.Where(r)
			return err == api.OK
		},
		tell: rulejson.ToValue,
		read: func(v api.Value) (api.Rules, api.Errno) {
			r, err, _, _ := rulejson.FromValue(v)
			return r, err
		},
	}
}

// needs is ErrField, unless it is so.
func needs(is bool) api.Errno {
	if !is {
		return api.ErrField
	}
	return api.OK
}
