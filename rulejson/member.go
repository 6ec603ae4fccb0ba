package rulejson

import (
	"slices"

	"spillway/api"
	"spillway/json"
)

// member is one of an object: its name, how its value is told, and how it is read.
type member struct {
	name string
	tell func() api.Value
	read func(r *reader, v api.Value)
}

// object is one of these members.
func object(members []member) api.Value {
	v := api.Value{Kind: api.Object}
	for _, m := range members {
		v.Names = append(v.Names, m.name)
		v.List = append(v.List, m.tell())
	}
	return v
}

func text(name string, s *string) member {
	return member{
		name: name,
		tell: func() api.Value { return json.OfText(*s) },
		read: func(r *reader, v api.Value) { *s = r.text(v) },
	}
}

func number(name string, n *int) member {
	return member{
		name: name,
		tell: func() api.Value { return json.OfInt(*n) },
		read: func(r *reader, v api.Value) { *n = r.decimal(v) },
	}
}

func flag(name string, b *bool) member {
	return member{
		name: name,
		tell: func() api.Value {
			if *b {
				return api.Value{Kind: api.True}
			}
			return api.Value{Kind: api.False}
		},
		read: func(r *reader, v api.Value) {
			*b = r.needs(v.Kind == api.True || v.Kind == api.False) && v.Kind == api.True
		},
	}
}

// word is a member that is one of some words; which one, is the number.
func word[W ~uint8](name string, w *W, words ...string) member {
	return member{
		name: name,
		tell: func() api.Value {
			if int(*w) >= len(words) {
				return json.OfText(words[0])
			}
			return json.OfText(words[*w])
		},
		read: func(r *reader, v api.Value) {
			if i := slices.Index(words, r.text(v)); r.needs(i >= 0) {
				*w = W(i)
			}
		},
	}
}

func texts(name string, l *[]string) member {
	return member{
		name: name,
		tell: func() api.Value {
			v := api.Value{Kind: api.Array}
			for _, s := range *l {
				v.List = append(v.List, json.OfText(s))
			}
			return v
		},
		read: func(r *reader, v api.Value) {
			r.each(v, func(r *reader, part api.Value) { *l = append(*l, r.text(part)) })
		},
	}
}

// list is an array of objects: how it is told, and how one more is read.
type list struct {
	tell func() api.Value
	add  func(r *reader, part api.Value)
}

// listOf is a list of what has these members; of what is missing it has what empty has.
func listOf[T any](l *[]T, empty T, members func(x *T) []member) list {
	return list{
		tell: func() api.Value {
			v := api.Value{Kind: api.Array}
			for _, x := range *l {
				v.List = append(v.List, object(members(&x)))
			}
			return v
		},
		add: func(r *reader, part api.Value) {
			x := empty
			r.object(part, members(&x)...)
			*l = append(*l, x)
		},
	}
}

func objects(name string, l list) member {
	return member{
		name: name,
		tell: l.tell,
		read: func(r *reader, v api.Value) { r.each(v, l.add) },
	}
}
