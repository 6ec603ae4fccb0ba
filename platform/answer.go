package platform

import (
	"cmp"
	"slices"

	"spillway/api"
	"spillway/command"
	"spillway/json"
	"spillway/rulejson"
)

// answering is how commands of a kind are done: with which parts they are answered, or an error.
type answering struct {
	kind command.Kind
	do   func(c command.Command) ([]command.Part, api.Errno)
}

func (one *program) answerings(now int) []answering {
	return []answering{
		{command.Push, func(c command.Command) ([]command.Part, api.Errno) { return nil, one.Load(c.Rules) }},
		{command.Fetch, func(command.Command) ([]command.Part, api.Errno) {
			r, version := one.Rules()
			return []command.Part{{Name: "rules", Value: rulejson.ToValue(r)}, {Name: "version", Value: json.OfInt(version)}}, api.OK
		}},
		{command.GetMetrics, func(c command.Command) ([]command.Part, api.Errno) {
			l := one.metrics(now, c.Resource)
			if c.Resource != "" && len(l) == 0 {
				return nil, api.ErrNone
			}
			return part("metrics", l), api.OK
		}},
		{command.Top, func(c command.Command) ([]command.Part, api.Errno) {
			return part("top", top(one.metrics(now, ""), c.K)), api.OK
		}},
		{command.SetMode, func(c command.Command) ([]command.Part, api.Errno) {
			one.mode = Mode(c.Mode)
			return nil, api.OK
		}},
		{command.Sample, func(c command.Command) ([]command.Part, api.Errno) { return nil, one.Sample(c.Load, c.Cpu) }},
	}
}

// answer is that to a line, which is done.
func (one *program) answer(now int, line command.Told) string {
	if line.Errno != api.OK {
		return command.Fail(line.Errno, line.At)
	}
	all := one.answerings(now)
	i := slices.IndexFunc(all, func(a answering) bool { return a.kind == line.Command.Kind })
	parts, err := all[i].do(line.Command)
	if err != api.OK {
		return command.Fail(err, 0)
	}
	s, err := command.Ok(parts...)
	if err != api.OK {
		return command.Fail(err, 0)
	}
	return s
}

// metrics are those of a resource, if there is one of that name, or, without a name, of all.
func (one *program) metrics(now int, resource string) []command.Metric {
	var l []command.Metric
	for _, r := range one.Resources() {
		if resource == "" || r == resource {
			c, _ := one.Counts(now, r) // no later time was noted
			l = append(l, command.Metric{Resource: r, Counts: c, Flight: one.Flight(r)})
		}
	}
	return l
}

// top are so many, at most, of the greatest Pass, falling.
func top(l []command.Metric, most int) []command.Metric {
	slices.SortStableFunc(l, func(a, b command.Metric) int { return cmp.Compare(b.Counts.Pass, a.Counts.Pass) })
	return l[:min(most, len(l))]
}

func part(name string, l []command.Metric) []command.Part {
	return []command.Part{{Name: name, Value: command.Metrics(l...)}}
}
