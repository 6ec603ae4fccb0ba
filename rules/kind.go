package rules

import (
	"slices"

	"spillway/api"
)

// kind is all rules of one: how many they are, what is wrong with one of them, and whether it is a resource's.
type kind struct {
	api.RuleKind
	many  int
	wrong func(i int) api.Errno
	isOf  func(i int, resource string) bool
}

// kinds are all of them, in their order.
func kinds(r api.Rules) []kind {
	return []kind{
		kindOf(api.FlowRule, r.Flows, Flow, func(f api.Flow, resource string) bool { return f.Resource == resource }),
		kindOf(api.BreakRule, r.Breaks, Break, func(b api.Break, resource string) bool { return b.Resource == resource }),
		kindOf(api.HotRule, r.Hots, Hot, func(h api.Hot, resource string) bool { return h.Resource == resource }),
		kindOf(api.SystemRule, r.Systems, System, func(api.System, string) bool { return true }),
		kindOf(api.ListRule, r.Lists, List, func(a api.Authority, resource string) bool { return a.Resource == resource }),
	}
}

func kindOf[R any](k api.RuleKind, l []R, look func(R) api.Errno, isOf func(R, string) bool) kind {
	return kind{
		RuleKind: k,
		many:     len(l),
		wrong:    func(i int) api.Errno { return look(l[i]) },
		isOf:     func(i int, resource string) bool { return isOf(l[i], resource) },
	}
}

func sameHot(a, b api.Hot) bool {
	return a.Resource == b.Resource && a.Index == b.Index && a.Count == b.Count && a.Seconds == b.Seconds && slices.Equal(a.Items, b.Items)
}

func sameList(a, b api.Authority) bool {
	return a.Resource == b.Resource && a.White == b.White && slices.Equal(a.Origins, b.Origins)
}
