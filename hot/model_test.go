package hot_test

import (
	"fmt"
	"math/rand"
	"slices"
	"testing"

	"spillway/api"
	"spillway/hot"
	"spillway/sketch"
)

const second = api.Second

// tokens are some of a value, at a time.
type tokens struct {
	at    int
	value string
	n     int
}

// model is a rule at work as the document tells of it: it keeps all that was taken, and adds it up anew each time.
type model struct {
	api.Hot
	keys    int
	last    int
	taken   []tokens
	kept    []string // what was touched least recently first
	windows map[string][]tokens
	places  *sketch.Sketch // asked for columns alone
	columns map[string][4]int
}

func newModel(t *testing.T, r api.Hot, keys int, seed uint64) *model {
	t.Helper()
	places, err := sketch.New(r.Seconds*second, 10, 4, 256, seed)
	if err != api.OK {
		t.Fatal(err)
	}
	return &model{Hot: r, keys: keys, windows: map[string][]tokens{}, places: places, columns: map[string][4]int{}}
}

// column is where a value stands in a row of the sketch.
func (m *model) column(value string) [4]int {
	l, known := m.columns[value]
	if !known {
		for row := range l {
			l[row], _ = m.places.Column(row, value)
		}
		m.columns[value] = l
	}
	return l
}

// isIn tells whether a time is in the window at another one.
func (m *model) isIn(ahead, at int) bool {
	bucket := m.Seconds * second / 10
	return at/bucket-ahead/bucket < 10
}

func (m *model) sum(at int, l []tokens, meant func(x tokens) bool) int {
	sum := 0
	for _, x := range l {
		if m.isIn(x.at, at) && meant(x) {
			sum += x.n
		}
	}
	return sum
}

func (m *model) estimate(at int, value string) int {
	l := m.column(value)
	var sums [4]int
	for _, x := range m.taken {
		if !m.isIn(x.at, at) {
			continue
		}
		for row, column := range m.column(x.value) {
			if column == l[row] {
				sums[row] += x.n
			}
		}
	}
	return slices.Min(sums[:])
}

// exactly is what was taken of a value in the window at a time.
func (m *model) exactly(at int, value string) int {
	return m.sum(at, m.taken, func(x tokens) bool { return x.value == value })
}

func (m *model) used(at int, value string) int {
	if slices.Contains(m.kept, value) {
		return m.sum(at, m.windows[value], func(tokens) bool { return true })
	}
	return m.estimate(at, value)
}

func (m *model) limit(value string) int {
	for _, item := range m.Items {
		if item.Value == value {
			return item.Count
		}
	}
	return m.Count
}

func (m *model) look(at int, value string, count int) bool {
	return m.used(at, value)+count <= m.limit(value)
}

func (m *model) take(at int, value string, count int) bool {
	m.last = at
	if !m.look(at, value, count) {
		return false
	}
	used := m.used(at, value)
	if i := slices.Index(m.kept, value); i >= 0 {
		m.kept = slices.Delete(m.kept, i, i+1)
	} else {
		if len(m.kept) == m.keys {
			delete(m.windows, m.kept[0])
			m.kept = m.kept[1:]
		}
		m.windows[value] = []tokens{{at, value, used}}
	}
	m.kept = append(m.kept, value)
	m.windows[value] = append(m.windows[value], tokens{at, value, count})
	m.taken = append(m.taken, tokens{at, value, count})
	m.taken = slices.DeleteFunc(m.taken, func(x tokens) bool { return !m.isIn(x.at, at) }) // no later time asks for it
	return true
}

func pick(r *rand.Rand, l ...int) int { return l[r.Intn(len(l))] }

// valueOf is one of so many, some of which come often.
func valueOf(r *rand.Rand, many int) string {
	return fmt.Sprint("v", pick(r, r.Intn(many), r.Intn(min(many, 5))))
}

// later is a time that is not ahead of the noted one, often near a bucket's end.
func (m *model) later(r *rand.Rand) int {
	bucket := m.Seconds * second / 10
	end := m.last - m.last%bucket + bucket
	at := pick(r, m.last, m.last, m.last, m.last+1, m.last+r.Intn(bucket/5), m.last+r.Intn(bucket), end-1, end, end+8*bucket-1, end+9*bucket)
	if r.Intn(3) > 0 { // so that much comes together in one window
		at = m.last + r.Intn(bucket/20)
	}
	return min(at, api.MaxTime)
}

// check holds a rule at work against the document at a time, without a change.
func check(t *testing.T, h *hot.Hot, m *model, at int, values ...string) {
	t.Helper()
	if got := h.Kept(); !slices.Equal(got, m.kept) {
		t.Fatalf("Kept = %v, want %v", got, m.kept)
	}
	for _, value := range values {
		if got, err := h.Used(at, value); got != m.used(at, value) || err != api.OK {
			t.Fatalf("Used(%d, %q) = %d, %v, want %d", at, value, got, err, m.used(at, value))
		}
		if got := h.Limit(value); got != m.limit(value) {
			t.Fatalf("Limit(%q) = %d, want %d", value, got, m.limit(value))
		}
		left := m.limit(value) - m.used(at, value)
		for _, count := range []int{1, left, left + 1} {
			if count < 1 {
				continue
			}
			if passes, err := h.Look(at, value, count); passes != (count <= left) || err != api.OK {
				t.Fatalf("Look(%d, %q, %d) = %v, %v, where %d are left", at, value, count, passes, err, left)
			}
		}
	}
}

// anyRule is one of few tokens, with a few items.
func anyRule(r *rand.Rand) api.Hot {
	rule := api.Hot{Resource: "a", Count: pick(r, 0, 1, 3, 20, r.Intn(100)), Seconds: pick(r, 1, 2, 7, 60)}
	for i := range r.Intn(4) {
		rule.Items = append(rule.Items, api.Item{Value: fmt.Sprint("v", 2*i), Count: r.Intn(50)})
	}
	return rule
}

// seen is how often what must be seen to came up.
type seen struct{ passed, blocked, gone, back, great int }

// step does one Take to both, and holds all that they tell of its value, and of another one, against each other.
func (s *seen) step(t *testing.T, h *hot.Hot, m *model, x tokens, other string) {
	t.Helper()
	at, value, count := x.at, x.value, x.n
	check(t, h, m, at, value, other)
	was, isKept, used := len(m.kept), slices.Contains(m.kept, value), m.used(at, value)
	if !isKept && used > m.exactly(at, value) {
		s.great++
	}
	passes, err := h.Take(at, value, count)
	if want := m.take(at, value, count); passes != want || err != api.OK {
		t.Fatalf("Take(%d, %q, %d) = %v, %v, want %v", at, value, count, passes, err, want)
	}
	check(t, h, m, at, value, other)
	switch {
	case !passes:
		s.blocked++
	case !isKept && used > 0:
		s.back++
	}
	if passes {
		s.passed++
	}
	if passes && !isKept && was == m.keys {
		s.gone++
	}
}

// P15.1, P15.2: any calls, held against the document: of few values and many, kept by few keys and many.
func TestModel(t *testing.T) {
	r := rand.New(rand.NewSource(15))
	var s seen
	for range 150 {
		rule, keys, many, seed := anyRule(r), pick(r, 1, 2, 5, 50, api.MaxKeys), pick(r, 3, 10, 100, 3000), r.Uint64()
		h, m := hotOf(t, rule, keys, seed), newModel(t, rule, keys, seed)
		if r.Intn(10) == 0 {
			m.take(api.MaxTime-r.Intn(5*second), "v0", 1)
			take(t, h, m.last, "v0", 1)
		}
		for range 200 {
			s.step(t, h, m, tokens{m.later(r), valueOf(r, many), pick(r, 1, 1, 2, 1+r.Intn(10))}, valueOf(r, many))
		}
	}
	if s.passed < 5000 || s.blocked < 5000 || s.gone < 2000 || s.back < 500 {
		t.Errorf("too little came up: %+v", s)
	}
}

// P15.2: where many values were taken, the sketch tells more of others than was taken of them, by all of its rows and columns and by the seed.
func TestManyValues(t *testing.T) {
	r := rand.New(rand.NewSource(151))
	var s seen
	for _, seed := range []uint64{0, 1, 1 << 63, r.Uint64()} {
		rule := api.Hot{Resource: "a", Count: 25, Seconds: 60}
		h, m := hotOf(t, rule, 3, seed), newModel(t, rule, 3, seed)
		for i := range 1500 {
			value := fmt.Sprint("w", i)
			if got, want := take(t, h, i, value, 1), m.take(i, value, 1); got != want {
				t.Fatalf("Take of %q: %v, want %v", value, got, want)
			}
		}
		for range 150 {
			x := tokens{m.last + r.Intn(second), fmt.Sprint("v", r.Intn(1000)), pick(r, 1, 15, 22, 25)}
			s.step(t, h, m, x, fmt.Sprint("w", r.Intn(2000)))
		}
	}
	if s.great < 300 || s.back < 100 || s.blocked < 100 {
		t.Errorf("too little came up: %+v", s)
	}
}

// P15.2: a value that is kept counts by its window, also when that is empty, whatever the sketch tells of it by then.
func TestKeptExactly(t *testing.T) {
	rule := api.Hot{Resource: "a", Count: 5, Seconds: 1}
	h, places := hotOf(t, rule, api.MaxKeys, 1), newModel(t, rule, 1, 1)
	take(t, h, 0, "v", 5)
	for i := range 2000 {
		at, value := 2*second+i, fmt.Sprint("w", i)
		// A value that comes begins with what the sketch tells, so that it may come too late to pass.
		if take(t, h, at, value, 1) {
			places.taken = append(places.taken, tokens{at, value, 1})
		}
	}
	at := 2*second + 2000
	if n := places.estimate(at, "v"); n < 3 {
		t.Fatalf("the sketch tells %d of v", n)
	}
	uses(t, "kept, and none in the window", h, at, "v", 0)
	if !take(t, h, at, "v", 5) || take(t, h, at, "v", 1) {
		t.Error("v has five")
	}
	uses(t, "kept, and five in the window", h, at, "v", 5)
}
