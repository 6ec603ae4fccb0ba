package command

import (
	"slices"

	"spillway/api"
	"spillway/json"
	"spillway/rules"
)

const kindName = "cmd"

// form is how commands of a kind are written: the word for them, and the parts that they name.
type form struct {
	Kind
	word  string
	parts []part
}

// forms are all of them. What may be missing has two: without it, and with it.
func forms() []form {
	resource := partOf("resource", func(c *Command) *string { return &c.Resource }, ofName())
	k := partOf("k", func(c *Command) *int { return &c.K }, ofNumber(api.MaxKeys))
	mode := partOf("mode", func(c *Command) *int { return &c.Mode }, ofWord("local", "client", "server"))
	load := partOf("load", func(c *Command) *int { return &c.Load }, ofNumber(api.MaxCount))
	cpu := partOf("cpu", func(c *Command) *int { return &c.Cpu }, ofNumber(api.MaxCount))
	all := partOf("rules", func(c *Command) *api.Rules { return &c.Rules }, ofRules())
	return []form{
		{Push, "push", []part{all}},
		{Fetch, "fetch", nil},
		{GetMetrics, "metrics", nil},
		{GetMetrics, "metrics", []part{resource}},
		{Top, "top", []part{k}},
		{SetMode, "mode", []part{mode}},
		{Sample, "sample", []part{load, cpu}},
	}
}

// formOf is that in which a command is right; false: it is not.
func formOf(c Command) (form, bool) {
	return find(func(f form) bool { return f.isOf(c) })
}

// fromValue reads a command.
func fromValue(v api.Value) (Command, api.Errno) {
	if v.Kind != api.Object {
		return Command{}, api.ErrForm
	}
	f, is := find(func(f form) bool { return f.isSaidBy(v) })
	if !is {
		return Command{}, api.ErrField
	}
	return f.read(v)
}

// find is the first form that is such; false: there is none.
func find(isSuch func(f form) bool) (form, bool) {
	all := forms()
	i := slices.IndexFunc(all, isSuch)
	if i < 0 {
		return form{}, false
	}
	return all[i], true
}

// isOf tells whether a command has just these parts, and each as it may be.
func (f form) isOf(c Command) bool {
	rest := c
	for _, p := range f.parts {
		if !p.may(c) {
			return false
		}
		p.clear(&rest)
	}
	return rest.isBare(f.Kind)
}

// isBare tells whether a command has nothing but a kind.
func (c Command) isBare(k Kind) bool {
	return c.Kind == k && rules.Same(c.Rules, api.Rules{}) && c.Resource == "" && c.K == 0 && c.Mode == 0 && c.Load == 0 && c.Cpu == 0
}

// isSaidBy tells whether an object has the word, and just the parts that are named, whatever they are.
func (f form) isSaidBy(v api.Value) bool {
	cmd, _ := json.Get(v, kindName)
	return cmd.Kind == api.String && cmd.Text == f.word && slices.Equal(sorted(v.Names), sorted(f.names()))
}

func (f form) names() []string {
	l := []string{kindName}
	for _, p := range f.parts {
		l = append(l, p.name)
	}
	return l
}

func (f form) read(v api.Value) (Command, api.Errno) {
	c := Command{Kind: f.Kind}
	for _, p := range f.parts {
		said, _ := json.Get(v, p.name)
		if err := p.read(&c, said); err != api.OK {
			return Command{}, err
		}
	}
	return c, api.OK
}

// value is a command of this form as a value.
func (f form) value(c Command) api.Value {
	all := []Part{{kindName, json.OfText(f.word)}}
	for _, p := range f.parts {
		all = append(all, Part{p.name, p.tell(c)})
	}
	return object(all...)
}

func sorted(l []string) []string { return slices.Sorted(slices.Values(l)) }
