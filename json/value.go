package json

import (
	"slices"
	"unicode/utf8"

	"spillway/api"
)

// maxApart is how many values are copied so that each list has a place of its own.
const maxApart = 1 << 20

// fits tells whether there are at most so many values in one, itself too. A value may have itself as a part, so it counts no further.
func fits(v api.Value, most int) bool {
	left := most - 1
	for lists := [][]api.Value{v.List}; len(lists) > 0; {
		l := lists[len(lists)-1]
		lists = lists[:len(lists)-1]
		if left -= len(l); left < 0 {
			return false
		}
		for _, part := range l {
			if len(part.List) > 0 {
				lists = append(lists, part.List)
			}
		}
	}
	return left >= 0
}

func tooGreat(v api.Value) bool { return !fits(v, api.MaxText) }

// right is Right of a value that is not too great, and of a depth of at most deep.
func right(v api.Value, deep int) bool {
	if v.Kind != api.Object && len(v.Names) > 0 {
		return false
	}
	switch v.Kind {
	case api.Null, api.False, api.True:
		return v.Text == "" && len(v.List) == 0
	case api.Number:
		return isNumber(v.Text) && len(v.List) == 0
	case api.String:
		return utf8.ValidString(v.Text) && len(v.List) == 0
	case api.Array:
		return v.Text == "" && areRight(v.List, deep)
	case api.Object:
		return v.Text == "" && len(v.Names) == len(v.List) && !slices.ContainsFunc(v.Names, isNoText) && areRight(v.List, deep)
	}
	return false
}

// areRight tells whether all parts are right, of what may be so deep.
func areRight(l []api.Value, deep int) bool {
	isWrong := func(part api.Value) bool { return !right(part, deep-1) }
	return deep > 0 && !slices.ContainsFunc(l, isWrong)
}

func isNoText(s string) bool { return !utf8.ValidString(s) }

// depth is a value's, looking no deeper than most.
func depth(v api.Value, most int) int {
	if v.Kind != api.Array && v.Kind != api.Object || most == 0 {
		return 0
	}
	deepest := 0
	for _, part := range v.List {
		deepest = max(deepest, depth(part, most-1))
	}
	return deepest + 1
}

// same is Equal of what is not too great.
func same(a, b api.Value) bool {
	return a.Kind == b.Kind && a.Text == b.Text && slices.Equal(a.Names, b.Names) && slices.EqualFunc(a.List, b.List, same)
}

// copied is a value with lists of its own, and no two of them are one. Of a value without an end, or that says the same again and again, none has room for that: there what is one list stays one.
func copied(v api.Value) api.Value {
	if fits(v, maxApart) {
		return copier{}.value(v)
	}
	return copier{made: map[place][]api.Value{}}.value(v)
}

// place is where a list stands.
type place struct {
	first *api.Value
	many  int
}

// copier copies values; of those lists that it keeps in made, it makes one copy.
type copier struct {
	made map[place][]api.Value
}

func (c copier) value(v api.Value) api.Value {
	v.Names = append([]string(nil), v.Names...)
	v.List = c.list(v.List)
	return v
}

func (c copier) list(l []api.Value) []api.Value {
	if len(l) == 0 {
		return nil
	}
	at := place{&l[0], len(l)}
	if made, there := c.made[at]; there {
		return made
	}
	made := make([]api.Value, len(l))
	if c.made != nil {
		c.made[at] = made
	}
	for i, part := range l {
		made[i] = c.value(part)
	}
	return made
}
