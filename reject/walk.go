package reject

import (
	"iter"

	"spillway/api"
	"spillway/rules"
)

// concerning goes through the numbers of the rules that concern a call.
func concerning(l []api.Flow, c api.Call) iter.Seq[int] {
	return func(yield func(int) bool) {
		for i, r := range l {
			if r.Resource == c.Resource && rules.Concerns(l, i, c.Origin) && !Where(r, c).Skip && !yield(i) {
				return
			}
		}
	}
}

// named goes through the rules of these numbers, as far as they are there.
func named(l []api.Flow, numbers ...int) iter.Seq[api.Flow] {
	return func(yield func(api.Flow) bool) {
		for _, i := range numbers {
			if i >= 0 && i < len(l) && !yield(l[i]) {
				return
			}
		}
	}
}
