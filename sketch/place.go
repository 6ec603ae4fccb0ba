package sketch

import (
	"slices"

	"spillway/api"
	"spillway/world"
)

const (
	maxRows    = 8
	maxColumns = 4096
	most       = 1 << 62 // the greatest number
)

// place is where a number stands.
type place struct {
	row, column int
}

// bucket is what was added in one: where it begins, how much in all, and the numbers that are not 0.
type bucket struct {
	at, total int
	numbers   map[place]int
}

// add lets the numbers of some places be so much more.
func (b *bucket) add(more int, l ...place) {
	b.total = plus(b.total, more)
	for _, p := range l {
		b.numbers[p] = plus(b.numbers[p], more)
	}
}

// places are those of a key, one a row.
func (s *Sketch) places(key string) []place {
	base := Hash(key) + s.seed
	l := make([]place, s.rows)
	for row := range s.rows {
		mixed := world.Mix(base + 0x9e3779b97f4a7c15*uint64(row+1))
		l[row] = place{row, int(mixed % uint64(s.columns))}
	}
	return l
}

// Hash is a key's sum.
func Hash(key string) uint64 {
	sum := uint64(14695981039346656037)
	for i := range len(key) {
		sum = (sum ^ uint64(key[i])) * 1099511628211
	}
	return sum
}

// plus is numbers together; it stays at most, and the sum itself might go round.
func plus(l ...int) int {
	sum := 0
	for _, n := range l {
		if n > most-sum {
			return most
		}
		sum += n
	}
	return sum
}

func areCounts(l []int) bool {
	return !slices.ContainsFunc(l, func(n int) bool { return n < 0 || n > api.MaxCount })
}

// once is the keys, each where it stands first.
func once(keys []string) []string {
	seen := make(map[string]struct{}, len(keys))
	var l []string
	for _, key := range keys {
		if _, twice := seen[key]; !twice {
			seen[key] = struct{}{}
			l = append(l, key)
		}
	}
	return l
}
