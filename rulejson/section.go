package rulejson

import "spillway/api"

// section is all rules of a kind, and the values that were found where they stand.
type section struct {
	list
	kind  api.RuleKind
	name  string
	found []api.Value
}

// sections are those of some rules, in the order of kinds.
func sections(r *api.Rules) []section {
	return []section{
		{list: listOf(&r.Flows, api.Flow{Origin: api.DefaultName}, ofFlow), kind: api.FlowRule, name: "flow"},
		{list: listOf(&r.Breaks, api.Break{}, ofBreak), kind: api.BreakRule, name: "break"},
		{list: listOf(&r.Hots, api.Hot{}, ofHot), kind: api.HotRule, name: "hot"},
		{list: listOf(&r.Systems, api.System{Qps: -1, Threads: -1, Rt: -1, Load: -1, Cpu: -1}, ofSystem), kind: api.SystemRule, name: "system"},
		{list: listOf(&r.Lists, api.Authority{}, ofList), kind: api.ListRule, name: "authority"},
	}
}

// member is a section as one of the whole; its rules are only found by it, not read.
func (s *section) member() member {
	return member{
		name: s.name,
		tell: s.tell,
		read: func(r *reader, v api.Value) {
			if r.needs(v.Kind == api.Array) {
				s.found = v.List
			}
		},
	}
}

func ofFlow(f *api.Flow) []member {
	return []member{
		text("resource", &f.Resource),
		text("origin", &f.Origin),
		flag("threads", &f.Threads),
		number("count", &f.Count),
		word("strategy", &f.Strategy, "direct", "relate", "chain"),
		text("ref", &f.Ref),
		word("shape", &f.Shape, "reject", "warmup", "pace", "warmpace"),
		number("warm", &f.Warm),
		number("queue", &f.Queue),
		flag("cluster", &f.Cluster),
		number("id", &f.Id),
		flag("fallback", &f.Fallback),
	}
}

func ofBreak(b *api.Break) []member {
	return []member{
		text("resource", &b.Resource),
		word("grade", &b.Grade, "slow", "errors", "count"),
		number("count", &b.Count),
		number("slow", &b.Slow),
		number("least", &b.Least),
		number("window", &b.Window),
		number("recover", &b.Recover),
	}
}

func ofHot(h *api.Hot) []member {
	return []member{
		text("resource", &h.Resource),
		number("index", &h.Index),
		number("count", &h.Count),
		number("seconds", &h.Seconds),
		objects("items", listOf(&h.Items, api.Item{}, ofItem)),
	}
}

func ofItem(i *api.Item) []member {
	return []member{
		text("value", &i.Value),
		number("count", &i.Count),
	}
}

func ofSystem(s *api.System) []member {
	return []member{
		number("qps", &s.Qps),
		number("threads", &s.Threads),
		number("rt", &s.Rt),
		number("load", &s.Load),
		number("cpu", &s.Cpu),
	}
}

func ofList(a *api.Authority) []member {
	return []member{
		text("resource", &a.Resource),
		flag("white", &a.White),
		texts("origins", &a.Origins),
	}
}
