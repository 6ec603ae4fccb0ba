package sketch_test

import (
	"hash/fnv"
	"math/big"
	"slices"
	"testing"

	"spillway/api"
	"spillway/sketch"
)

const most = 1 << 62

// shape is what a sketch is made of.
type shape struct {
	width, buckets, rows, columns int
	seed                          uint64
}

// usual is the shape of the document's example.
func usual() shape {
	return shape{width: 1000000, buckets: 10, rows: 4, columns: 256, seed: 7}
}

func sketchOf(t *testing.T, x shape) *sketch.Sketch {
	t.Helper()
	s, err := sketch.New(x.width, x.buckets, x.rows, x.columns, x.seed)
	if err != api.OK || s == nil {
		t.Fatalf("New(%+v): %v, %v", x, s, err)
	}
	return s
}

func add(t *testing.T, s *sketch.Sketch, at int, key string, n ...int) {
	t.Helper()
	if err := s.Add(at, key, n...); err != api.OK {
		t.Fatalf("Add(%d, %q, %v) = %v", at, key, n, err)
	}
}

// added is what was added of a key at a time.
type added struct {
	at  int
	key string
	n   int
}

// model is a sketch as the document tells of it: all that was added, and nothing reckoned ahead.
type model struct {
	shape
	last     int
	all      []added
	reckoned map[spot]int // the columns that were reckoned
}

type spot struct {
	row int
	key string
}

func (m *model) add(at int, key string, n ...int) {
	m.last = at
	for _, x := range n {
		m.all = append(m.all, added{at, key, x})
	}
}

func (m *model) column(row int, key string) int {
	column, known := m.reckoned[spot{row, key}]
	if !known {
		column = m.reckon(row, key)
		if m.reckoned == nil {
			m.reckoned = map[spot]int{}
		}
		m.reckoned[spot{row, key}] = column
	}
	return column
}

// reckon takes numbers that cannot go round.
func (m *model) reckon(row int, key string) int {
	sum := new(big.Int).SetUint64(hashOf(key))
	sum.Add(sum, new(big.Int).SetUint64(m.seed))
	step := new(big.Int).SetUint64(0x9e3779b97f4a7c15)
	sum.Add(sum, step.Mul(step, big.NewInt(int64(row+1))))
	sum.Mod(sum, new(big.Int).Lsh(big.NewInt(1), 64))
	return int(mix(sum.Uint64()) % uint64(m.columns))
}

func hashOf(key string) uint64 {
	h := fnv.New64a()
	h.Write([]byte(key))
	return h.Sum64()
}

func mix(x uint64) uint64 {
	x ^= x >> 30
	x *= 0xbf58476d1ce4e5b9
	x ^= x >> 27
	x *= 0x94d049bb133111eb
	return x ^ x>>31
}

// sum is all that was added in the window at a time, of the keys that are meant.
func (m *model) sum(at int, meant func(key string) bool) int {
	number := func(at int) int { return at / (m.width / m.buckets) }
	sum := new(big.Int)
	for _, x := range m.all {
		if meant(x.key) && number(x.at) > number(at)-m.buckets && number(x.at) <= number(at) {
			sum.Add(sum, big.NewInt(int64(x.n)))
		}
	}
	if sum.Cmp(big.NewInt(most)) > 0 {
		return most
	}
	return int(sum.Int64())
}

func (m *model) total(at int) int { return m.sum(at, func(string) bool { return true }) }

// exact is what was added of a key, without others in its columns.
func (m *model) exact(at int, key string) int {
	return m.sum(at, func(k string) bool { return k == key })
}

func (m *model) estimate(at int, key string) int {
	var sums []int
	for row := range m.rows {
		column := m.column(row, key)
		sums = append(sums, m.sum(at, func(k string) bool { return m.column(row, k) == column }))
	}
	return slices.Min(sums)
}

// top takes the greatest out, one behind the other, the first one of like ones.
func (m *model) top(at, k int, keys ...string) []api.Item {
	var items, l []api.Item
	for i, key := range keys {
		if n := m.estimate(at, key); n > 0 && slices.Index(keys, key) == i {
			items = append(items, api.Item{Value: key, Count: n})
		}
	}
	for len(l) < k && len(items) > 0 {
		greatest := 0
		for i, x := range items {
			if x.Count > items[greatest].Count {
				greatest = i
			}
		}
		l = append(l, items[greatest])
		items = slices.Delete(items, greatest, greatest+1)
	}
	return l
}

// check holds a sketch against the document at a time.
func check(t *testing.T, s *sketch.Sketch, m *model, at int, keys ...string) {
	t.Helper()
	if got := s.Last(); got != m.last {
		t.Fatalf("Last = %d, want %d", got, m.last)
	}
	if got, err := s.Total(at); got != m.total(at) || err != api.OK {
		t.Fatalf("%+v: Total(%d) = %d, %v, want %d", m.shape, at, got, err, m.total(at))
	}
	for _, key := range keys {
		got, err := s.Estimate(at, key)
		if want := m.estimate(at, key); got != want || err != api.OK {
			t.Fatalf("%+v: Estimate(%d, %q) = %d, %v, want %d", m.shape, at, key, got, err, want)
		}
		if got < m.exact(at, key) || got > m.total(at) {
			t.Fatalf("%+v: Estimate(%d, %q) = %d, of %d, and %d in all", m.shape, at, key, got, m.exact(at, key), m.total(at))
		}
	}
	for _, k := range []int{0, 1, len(keys) / 2, len(keys), len(keys) + 1} {
		if got, err := s.Top(at, k, keys...); !slices.Equal(got, m.top(at, k, keys...)) || err != api.OK {
			t.Fatalf("%+v: Top(%d, %d) = %v, %v, want %v", m.shape, at, k, got, err, m.top(at, k, keys...))
		}
	}
}
