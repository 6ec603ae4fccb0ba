package client

import (
	"maps"
	"slices"

	"spillway/api"
)

// requests are those that wait, by their numbers, each with the time at which it was asked, and what became of those that do not wait any more, till it is told.
type requests struct {
	timeout int
	asked   map[int]int
	given   int // numbers
	became  []Told
}

func newRequests(timeout int) requests { return requests{timeout: timeout, asked: map[int]int{}} }

func (r *requests) fork() requests {
	fork := *r
	fork.asked, fork.became = maps.Clone(r.asked), slices.Clone(r.became)
	return fork
}

// areMost tells whether as many wait as may.
func (r *requests) areMost() bool { return len(r.asked) >= api.MaxPending }

// await lets one more wait, which gets a number.
func (r *requests) await(at int) int {
	r.given++
	r.asked[r.given] = at
	return r.given
}

// numbers are those of the ones that wait, rising: so they stand in the order in which they were asked.
func (r *requests) numbers() []int { return slices.Sorted(maps.Keys(r.asked)) }

// answered lets the one that this answers wait no more; there is none, if the answer came too late.
func (r *requests) answered(a api.Answer) {
	if _, waits := r.asked[a.Id]; waits {
		r.end(Told{Id: a.Id, Answer: a})
	}
}

// tick lets those fall back that were awaited too long.
func (r *requests) tick(at int) {
	for _, number := range r.numbers() {
		if at-r.asked[number] >= r.timeout {
			r.end(Told{Id: number, Fallback: true})
		}
	}
}

// abandon lets all fall back.
func (r *requests) abandon() {
	for _, number := range r.numbers() {
		r.end(Told{Id: number, Fallback: true})
	}
}

func (r *requests) end(k Told) {
	delete(r.asked, k.Id)
	r.became = append(r.became, k)
}

func (r *requests) tell() []Told {
	told := r.became
	r.became = nil
	return told
}
