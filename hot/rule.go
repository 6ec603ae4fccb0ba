package hot

import "spillway/api"

// rule is what a hot goes by: the limits of values, and how wide a window is.
type rule struct {
	count, width int
	items        map[string]int // the counts of those values that have one of their own
}

// newRule is of a right rule, whose list it leaves alone.
func newRule(r api.Hot) rule {
	items := make(map[string]int, len(r.Items))
	for _, item := range r.Items {
		items[item.Value] = item.Count
	}
	return rule{count: r.Count, width: r.Seconds * api.Second, items: items}
}

// limit is how many tokens of a value may pass.
func (r rule) limit(value string) int {
	if own, is := r.items[value]; is {
		return own
	}
	return r.count
}
