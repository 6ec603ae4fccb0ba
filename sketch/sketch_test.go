package sketch_test

import (
	"math"
	"math/rand"
	"slices"
	"strconv"
	"strings"
	"testing"

	"spillway/api"
	"spillway/sketch"
	"spillway/world"
)

// P6.1: New takes all four numbers to their limits, and buckets that divide the width; ErrRange is named first.
func TestNew(t *testing.T) {
	tests := []struct {
		width, buckets, rows, columns int
		err                           api.Errno
	}{
		{1, 1, 1, 1, api.OK},
		{1000000, 10, 4, 256, api.OK},
		{1000, 10, 8, 4096, api.OK},
		{60, 60, 1, 4096, api.OK},
		{120, 60, 8, 1, api.OK},
		{7, 7, 3, 5, api.OK},
		{api.MaxWidth, 1, 1, 1, api.OK},
		{api.MaxWidth, 32, 8, 4096, api.OK},
		{0, 1, 1, 1, api.ErrRange},
		{-10, 10, 1, 1, api.ErrRange},
		{math.MinInt, 1, 1, 1, api.ErrRange},
		{api.MaxWidth + 1, 1, 1, 1, api.ErrRange},
		{math.MaxInt, 1, 1, 1, api.ErrRange},
		{1000, 0, 1, 1, api.ErrRange},
		{1000, -10, 1, 1, api.ErrRange},
		{1000, math.MinInt, 1, 1, api.ErrRange},
		{122, api.MaxBuckets + 1, 1, 1, api.ErrRange},
		{1000, math.MaxInt, 1, 1, api.ErrRange},
		{1000, 10, 0, 1, api.ErrRange},
		{1000, 10, -1, 1, api.ErrRange},
		{1000, 10, math.MinInt, 1, api.ErrRange},
		{1000, 10, 9, 1, api.ErrRange},
		{1000, 10, math.MaxInt, 1, api.ErrRange},
		{1000, 10, 1, 0, api.ErrRange},
		{1000, 10, 1, -1, api.ErrRange},
		{1000, 10, 1, math.MinInt, api.ErrRange},
		{1000, 10, 1, 4097, api.ErrRange},
		{1000, 10, 1, math.MaxInt, api.ErrRange},
		{1000, 3, 9, 1, api.ErrRange},
		{1000, 3, 1, 4097, api.ErrRange},
		{-1, 3, 1, 1, api.ErrRange},
		{0, 0, 0, 0, api.ErrRange},
		{1000, 3, 1, 1, api.ErrForm},
		{5, 10, 8, 4096, api.ErrForm},
		{1, 2, 1, 1, api.ErrForm},
		{api.MaxWidth, api.MaxBuckets, 1, 1, api.ErrForm},
	}
	for _, x := range tests {
		for _, seed := range []uint64{0, 1, math.MaxUint64} {
			s, err := sketch.New(x.width, x.buckets, x.rows, x.columns, seed)
			if err != x.err || (s == nil) != (x.err != api.OK) {
				t.Errorf("New(%+v): %v, %v", x, s, err)
			}
			if err == api.OK {
				m := &model{shape: shape{x.width, x.buckets, x.rows, x.columns, seed}}
				check(t, s, m, 0, "", "a")
				check(t, s, m, api.MaxTime, "", "a")
			}
		}
	}
}

// P6.3: Hash is FNV-1a of 64 bits, of a key's bytes; the document's example, and sums that others know.
func TestHash(t *testing.T) {
	known := map[string]uint64{
		"":       0xcbf29ce484222325,
		"a":      0xaf63dc4c8601ec8c,
		"b":      0xaf63df4c8601f1a5,
		"foobar": 0x85944171f73967e8,
	}
	for key, want := range known {
		if got := sketch.Hash(key); got != want {
			t.Errorf("Hash(%q) = %x, want %x", key, got, want)
		}
	}
	keys := []string{"ab", "ba", "\x00", "\x00\x00", "\xff", "\xff\xfe\x80", "ä", "日本", strings.Repeat("z", 5000)}
	for b := range 256 {
		keys = append(keys, string([]byte{byte(b), 'x', byte(b)}))
	}
	for _, key := range keys {
		if got, want := sketch.Hash(key), hashOf(key); got != want {
			t.Errorf("Hash(%q) = %x, want %x", key, got, want)
		}
	}
}

// P6.3: Column is reckoned from the key's sum, the seed and the row, without a carry; the same on each call, whatever was added.
func TestColumn(t *testing.T) {
	keys := []string{"", "a", "b", "foobar", "\xff\xfe", strings.Repeat("k", 300)}
	for _, seed := range []uint64{0, 1, 7, 1 << 63, math.MaxUint64} {
		for _, columns := range []int{1, 2, 3, 255, 256, 4095, 4096} {
			x := shape{width: 1000, buckets: 10, rows: 8, columns: columns, seed: seed}
			s, m := sketchOf(t, x), &model{shape: x}
			for row := range 8 {
				for _, key := range keys {
					got, err := s.Column(row, key)
					if want := m.column(row, key); got != want || err != api.OK {
						t.Errorf("%+v: Column(%d, %q) = %d, %v, want %d", x, row, key, got, err, want)
					}
					s.Add(row, key, 5)
				}
			}
		}
	}
}

// P6.3: columns of one row and another one, written out: Mix of what the document adds up.
func TestColumnWrittenOut(t *testing.T) {
	s := sketchOf(t, shape{width: 1000, buckets: 10, rows: 2, columns: 4096, seed: 11})
	// The two sums are 0xaf63dc4c8601ec8c + 11 and once, or twice, 0x9e3779b97f4a7c15, as they are when they went round.
	for row, sum := range []uint64{0x4d9b5606054c68ac, 0xebd2cfbf8496e4c1} {
		got, err := s.Column(row, "a")
		if want := int(world.Mix(sum) % 4096); got != want || err != api.OK {
			t.Errorf("Column(%d, a) = %d, %v, want %d", row, got, err, want)
		}
	}
}

// P6.3: Column of a row that is not there is ErrRange, and no column beside.
func TestColumnErrors(t *testing.T) {
	for _, rows := range []int{1, 3, 8} {
		s := sketchOf(t, shape{width: 1000, buckets: 10, rows: rows, columns: 256, seed: 1})
		if _, err := s.Column(rows-1, "a"); err != api.OK {
			t.Errorf("of %d: the last row: %v", rows, err)
		}
		for _, row := range []int{-1, rows, 9, math.MinInt, math.MaxInt} {
			if got, err := s.Column(row, "a"); got != 0 || err != api.ErrRange {
				t.Errorf("of %d: Column(%d) = %d, %v", rows, row, got, err)
			}
		}
	}
}

// P6.1, P6.2: the document's example.
func TestExample(t *testing.T) {
	s := sketchOf(t, usual())
	add(t, s, 0, "a", 3)
	add(t, s, 0, "b", 2)
	for _, x := range []struct{ at, a, total int }{{0, 3, 5}, {999999, 3, 5}, {1000000, 0, 0}} {
		if got, err := s.Estimate(x.at, "a"); got != x.a || err != api.OK {
			t.Errorf("Estimate(%d, a) = %d, %v", x.at, got, err)
		}
		if got, err := s.Total(x.at); got != x.total || err != api.OK {
			t.Errorf("Total(%d) = %d, %v", x.at, got, err)
		}
	}
	one := sketchOf(t, shape{width: 1000000, buckets: 10, rows: 2, columns: 1})
	add(t, one, 0, "a", 3)
	add(t, one, 0, "b", 2)
	if got, err := one.Estimate(0, "a"); got != 5 || err != api.OK {
		t.Errorf("of 1 column: Estimate = %d, %v", got, err)
	}
}

// P6.1, P2: Add's errors, in their order; with one nothing is added and nothing noted.
func TestAddErrors(t *testing.T) {
	tests := []struct {
		name string
		at   int
		n    []int
		err  api.Errno
	}{
		{"below 0", -1, []int{1}, api.ErrRange},
		{"the least time", math.MinInt, []int{1}, api.ErrRange},
		{"above all", api.MaxTime + 1, []int{1}, api.ErrRange},
		{"the greatest, without n", math.MaxInt, nil, api.ErrRange},
		{"so many below 0", 500, []int{-1}, api.ErrRange},
		{"the least number", 500, []int{math.MinInt}, api.ErrRange},
		{"so many above all", 500, []int{api.MaxCount + 1}, api.ErrRange},
		{"the greatest number", 500, []int{math.MaxInt}, api.ErrRange},
		{"the first one wrong", 500, []int{-1, 1, 2}, api.ErrRange},
		{"the last one wrong", 5000, []int{1, 2, api.MaxCount + 1}, api.ErrRange},
		{"back, and wrong", 499, []int{-1}, api.ErrRange},
		{"back", 499, []int{1}, api.ErrBack},
		{"back in the bucket", 499, []int{0}, api.ErrBack},
		{"back, without n", 0, nil, api.ErrBack},
	}
	for _, x := range tests {
		s, m := sketchOf(t, usual()), &model{shape: usual()}
		add(t, s, 500, "a", 3)
		m.add(500, "a", 3)
		for _, key := range []string{"a", "b"} {
			if err := s.Add(x.at, key, x.n...); err != x.err {
				t.Errorf("%s: %v, want %v", x.name, err, x.err)
			}
		}
		check(t, s, m, 500, "a", "b")
		check(t, s, m, 1000499, "a", "b")
	}
}

// P6.1: all edges of times and numbers are taken, 0 too, and any text is a key.
func TestAddEdges(t *testing.T) {
	keys := []string{"", "a", "\x00\xff", strings.Repeat("k", 1<<16)}
	s, m := sketchOf(t, usual()), &model{shape: usual()}
	for _, at := range []int{0, 99999, 100000, 100000, api.MaxTime - 1, api.MaxTime, api.MaxTime} {
		for i, key := range keys {
			n := []int{0, 1, api.MaxCount, i}
			add(t, s, at, key, n...)
			m.add(at, key, n...)
		}
		check(t, s, m, at, keys...)
	}
}

// P6.1, P6.3: at is noted, also without n, or with nothing but 0; the same time again is not back.
func TestTimeIsNoted(t *testing.T) {
	for name, n := range map[string][]int{"without n": nil, "nothing": {0, 0}, "some": {2, 3}} {
		s, m := sketchOf(t, usual()), &model{shape: usual()}
		add(t, s, 0, "a", 40)
		m.add(0, "a", 40)
		for _, at := range []int{0, 7, 7, 999999, 1000000, api.MaxTime} {
			add(t, s, at, "a", n...)
			m.add(at, "a", n...)
			check(t, s, m, at, "a", "b")
			if err := s.Add(at-1, "a", n...); at > 0 && err != api.ErrBack {
				t.Errorf("%s: behind %d: %v", name, at, err)
			}
			if _, err := s.Estimate(at-1, "a"); at > 0 && err != api.ErrBack {
				t.Errorf("%s: behind %d: Estimate: %v", name, at, err)
			}
		}
	}
}

// P6.1: at once, or one behind the other in one bucket: the same.
func TestAddTogether(t *testing.T) {
	together, apart := sketchOf(t, usual()), sketchOf(t, usual())
	add(t, together, 199999, "a", 1, 0, 7, 20)
	for i, n := range []int{1, 0, 7, 20} {
		add(t, apart, 100000+33333*i, "a", n)
	}
	for _, at := range []int{199999, 1099999, 1100000} {
		one, _ := together.Estimate(at, "a")
		other, err := apart.Estimate(at, "a")
		if one != other || err != api.OK {
			t.Errorf("at %d: %d and %d, %v", at, one, other, err)
		}
	}
	if got, _ := together.Estimate(1099999, "a"); got != 28 {
		t.Errorf("Estimate = %d", got)
	}
}

// great are numbers whose sum is n.
func great(n int) []int {
	l := slices.Repeat([]int{api.MaxCount}, n/api.MaxCount)
	return append(l, n%api.MaxCount)
}

// P6.1, P6.2: numbers, estimates and Total stay at 2^62, within a bucket and over several; just below it they are exact.
func TestSumsStay(t *testing.T) {
	s, m := sketchOf(t, usual()), &model{shape: usual()}
	step := func(at int, key string, sum int) {
		t.Helper()
		add(t, s, at, key, great(sum)...)
		m.add(at, key, sum)
	}
	tells := func(at, a, total int) {
		t.Helper()
		if got, err := s.Estimate(at, "a"); got != a || m.estimate(at, "a") != a || err != api.OK {
			t.Errorf("at %d: Estimate = %d, %v, want %d", at, got, err, a)
		}
		if got, err := s.Total(at); got != total || err != api.OK {
			t.Errorf("at %d: Total = %d, %v, want %d", at, got, err, total)
		}
	}
	step(0, "a", most-2)
	tells(0, most-2, most-2)
	step(0, "b", 1)
	tells(0, most-2, most-1)
	step(0, "a", 1)
	tells(0, most-1, most)
	step(0, "a", 12)
	tells(0, most, most)
	step(0, "a", most)
	tells(0, most, most)
	step(100000, "a", most-9)
	tells(100000, most, most)
	tells(999999, most, most)
	tells(1000000, most-9, most-9)
	step(1000000, "b", most)
	tells(1000000, most-9, most)
	tells(1100000, 0, most)
}

// P6.1: one call's sum stays at 2^62 too, however many are handed in.
func TestSumOfOneCall(t *testing.T) {
	s := sketchOf(t, shape{width: 1, buckets: 1, rows: 1, columns: 1})
	add(t, s, 0, "a", slices.Repeat([]int{api.MaxCount}, 3*most/api.MaxCount)...)
	for _, ask := range []func(int) (int, api.Errno){s.Total, func(at int) (int, api.Errno) { return s.Estimate(at, "a") }} {
		if got, err := ask(0); got != most || err != api.OK {
			t.Errorf("%d, %v", got, err)
		}
	}
}

// P6.2: asking of a time that may not be: ErrRange, then ErrBack, and nothing beside; Top has ErrRange also of a k below 0.
func TestAskingErrors(t *testing.T) {
	tests := []struct {
		at, k int
		err   api.Errno
		top   api.Errno
	}{
		{-1, 1, api.ErrRange, api.ErrRange},
		{math.MinInt, 1, api.ErrRange, api.ErrRange},
		{api.MaxTime + 1, 1, api.ErrRange, api.ErrRange},
		{math.MaxInt, 0, api.ErrRange, api.ErrRange},
		{0, 1, api.ErrBack, api.ErrBack},
		{499, 0, api.ErrBack, api.ErrBack},
		{499, -1, api.ErrBack, api.ErrRange},
		{500, -1, api.OK, api.ErrRange},
		{500, math.MinInt, api.OK, api.ErrRange},
	}
	s, m := sketchOf(t, usual()), &model{shape: usual()}
	add(t, s, 500, "a", 3)
	m.add(500, "a", 3)
	for _, x := range tests {
		want := 0
		if x.err == api.OK {
			want = 3
		}
		if got, err := s.Estimate(x.at, "a"); got != want || err != x.err {
			t.Errorf("Estimate(%d) = %d, %v, want %v", x.at, got, err, x.err)
		}
		if got, err := s.Total(x.at); got != want || err != x.err {
			t.Errorf("Total(%d) = %d, %v, want %v", x.at, got, err, x.err)
		}
		for _, keys := range [][]string{nil, {"a"}} {
			if got, err := s.Top(x.at, x.k, keys...); len(got) != 0 || err != x.top {
				t.Errorf("Top(%d, %d, %q) = %v, %v, want %v", x.at, x.k, keys, got, err, x.top)
			}
		}
	}
	check(t, s, m, 500, "a")
}

// P6.2: asking notes nothing and forgets nothing: behind it a time ahead of the one that was asked can be added at.
func TestAskingNotesNothing(t *testing.T) {
	s, m := sketchOf(t, usual()), &model{shape: usual()}
	add(t, s, 5, "a", 3)
	m.add(5, "a", 3)
	for _, at := range []int{7000000, api.MaxTime, 5} {
		check(t, s, m, at, "a", "b")
		s.Column(0, "b")
	}
	add(t, s, 6, "b", 4)
	m.add(6, "b", 4)
	check(t, s, m, 999999, "a", "b")
}

// P6.7: what was added leaves when its bucket leaves the window, not ahead of that, and without another call.
func TestBucketsLeave(t *testing.T) {
	for _, x := range []shape{{1000, 10, 2, 16, 1}, {60, 60, 1, 1, 2}, {6, 2, 3, 7, 3}, {10, 1, 8, 4096, 4}} {
		one := x.width / x.buckets
		for _, at := range []int{0, one - 1, one, 5*x.width + one/2} {
			s := sketchOf(t, x)
			add(t, s, at, "a", 9)
			leaves := at - at%one + x.width
			for _, y := range [][2]int{{at, 9}, {leaves - 1, 9}, {leaves, 0}, {leaves + x.width, 0}} {
				got, err := s.Estimate(y[0], "a")
				total, _ := s.Total(y[0])
				top, _ := s.Top(y[0], 5, "a")
				if got != y[1] || total != y[1] || (len(top) == 1) != (y[1] > 0) || err != api.OK {
					t.Errorf("%+v: added at %d: at %d Estimate %d, Total %d, Top %v, %v", x, at, y[0], got, total, top, err)
				}
			}
		}
	}
}

// P6.2: the greatest first, of like ones that which stands first, each key once, none of 0, at most k.
func TestTop(t *testing.T) {
	s := sketchOf(t, shape{width: 1000, buckets: 10, rows: 8, columns: 4096, seed: 3})
	for _, x := range []added{{0, "a", 3}, {0, "b", 5}, {100, "c", 3}, {100, "", 1}, {200, "a", 2}, {200, "zero", 0}} {
		add(t, s, x.at, x.key, x.n)
	}
	a, b, c, none := api.Item{Value: "a", Count: 5}, api.Item{Value: "b", Count: 5}, api.Item{Value: "c", Count: 3}, api.Item{Count: 1}
	tests := []struct {
		name string
		k    int
		keys []string
		want []api.Item
	}{
		{"all, falling", 9, []string{"", "c", "b", "a"}, []api.Item{b, a, c, none}},
		{"like ones as they stand", 9, []string{"a", "c", "b"}, []api.Item{a, b, c}},
		{"like ones the other way", 9, []string{"b", "c", "a"}, []api.Item{b, a, c}},
		{"just as many", 3, []string{"c", "a", "b"}, []api.Item{a, b, c}},
		{"two", 2, []string{"c", "b", "", "a"}, []api.Item{b, a}},
		{"one of like ones", 1, []string{"c", "a", "b"}, []api.Item{a}},
		{"none", 0, []string{"a", "b"}, nil},
		{"no keys", 4, nil, nil},
		{"as many as there may be", math.MaxInt, []string{"c", "a"}, []api.Item{a, c}},
		{"keys that are not there", 9, []string{"x", "a", "zero", "y"}, []api.Item{a}},
		{"each once", 9, []string{"c", "a", "c", "b", "a", "a", "c"}, []api.Item{a, b, c}},
		{"each once, at its first place", 9, []string{"b", "a", "b"}, []api.Item{b, a}},
		{"two, each once", 2, []string{"a", "a", "a", "c"}, []api.Item{a, c}},
	}
	for _, x := range tests {
		if got, err := s.Top(200, x.k, x.keys...); !slices.Equal(got, x.want) || err != api.OK {
			t.Errorf("%s: %v, %v, want %v", x.name, got, err, x.want)
		}
	}
	if got, err := s.Top(1000, 9, "a", "b", "c"); !slices.Equal(got, []api.Item{c, {Value: "a", Count: 2}}) || err != api.OK {
		t.Errorf("later: %v, %v", got, err)
	}
}

// P6.2: many like ones stay in the order in which they were handed in.
func TestTopOfManyAlike(t *testing.T) {
	s := sketchOf(t, shape{width: 1000, buckets: 10, rows: 1, columns: 1})
	add(t, s, 0, "other", 4)
	var keys []string
	var want []api.Item
	for i := range 200 {
		keys = append(keys, strconv.Itoa((i*37)%200))
		want = append(want, api.Item{Value: keys[i], Count: 4})
	}
	for _, k := range []int{1, 13, 199, 200, 500} {
		if got, err := s.Top(0, k, keys...); !slices.Equal(got, want[:min(k, 200)]) || err != api.OK {
			t.Errorf("k %d: %v, %v", k, got, err)
		}
	}
}

// P6.1, P6.2, P6.4, P6.7: sketches of all kinds, with many keys in few columns too, against the document.
func TestAgainstModel(t *testing.T) {
	r := rand.New(rand.NewSource(6))
	shapes := []shape{
		{1, 1, 1, 1, 0}, {5, 5, 2, 3, 1}, {6, 2, 8, 2, 2}, {10, 1, 3, 4, math.MaxUint64}, {1000, 10, 4, 256, 7},
		{60, 60, 3, 5, 9}, {api.MaxWidth, 8, 2, 4, 1 << 63}, {1000, 10, 8, 4096, 11}, {1000, 10, 1, 7, 12},
	}
	for _, x := range shapes {
		for range 4 {
			s, m, at := sketchOf(t, x), &model{shape: x}, r.Intn(2*x.width)
			for range 25 {
				at += []int{0, r.Intn(x.width/5 + 2), r.Intn(x.width + 1), r.Intn(3*x.width + 1)}[r.Intn(4)]
				key, n := strconv.Itoa(r.Intn(8)), make([]int, r.Intn(4))
				for i := range n {
					n[i] = r.Intn(20)
				}
				add(t, s, at, key, n...)
				m.add(at, key, n...)
				keys := []string{"3", key, "0", "9", key, "5"}
				check(t, s, m, at, keys...)
				check(t, s, m, at+r.Intn(2*x.width), keys...)
			}
		}
	}
}

// P6.5: as long as one key alone is added, its estimate is what was added, whatever the sketch.
func TestOneKeyAlone(t *testing.T) {
	for _, rows := range []int{1, 2, 8} {
		for _, columns := range []int{1, 2, 4096} {
			s, sum := sketchOf(t, shape{width: 1000, buckets: 10, rows: rows, columns: columns, seed: 5}), 0
			for at := 0; at < 1000; at += 77 {
				add(t, s, at, "a", at, 1)
				sum += at + 1
				if got, err := s.Estimate(at, "a"); got != sum || err != api.OK {
					t.Errorf("%d rows of %d: Estimate = %d, %v, want %d", rows, columns, got, err, sum)
				}
			}
		}
	}
}

// P6.6: with more rows of the same seed no estimate is greater, and some are less, as other keys are not in all columns.
func TestMoreRows(t *testing.T) {
	var last []int
	sums := map[int]int{}
	for rows := 1; rows <= 8; rows++ {
		s := sketchOf(t, shape{width: 1000, buckets: 10, rows: rows, columns: 8, seed: 6})
		var now []int
		for i := range 40 {
			add(t, s, 0, strconv.Itoa(i), i)
		}
		for i := range 40 {
			n, err := s.Estimate(0, strconv.Itoa(i))
			if err != api.OK || n < i || last != nil && n > last[i] {
				t.Errorf("%d rows: Estimate of %d = %d, %v; with one row less %v", rows, i, n, err, last)
			}
			now = append(now, n)
			sums[rows] += n
		}
		last = now
	}
	if sums[8] >= sums[1] {
		t.Errorf("8 rows tell as much as one: %v", sums)
	}
}

// P3: what is handed in stays, and what is answered is the caller's.
func TestListsStay(t *testing.T) {
	s, m := sketchOf(t, usual()), &model{shape: usual()}
	n := []int{1, 2, 3, 4}
	add(t, s, 0, "a", n[:3]...)
	m.add(0, "a", 1, 2, 3)
	if !slices.Equal(n, []int{1, 2, 3, 4}) {
		t.Errorf("the numbers became %v", n)
	}
	n[0] = 99
	keys := []string{"b", "a", "a", "b", "c"}
	one, _ := s.Top(0, 3, keys[:4]...)
	other, _ := s.Top(0, 3, keys[:4]...)
	if !slices.Equal(keys, []string{"b", "a", "a", "b", "c"}) {
		t.Errorf("the keys became %q", keys)
	}
	one[0] = api.Item{Value: "z", Count: 1}
	if want := []api.Item{{Value: "a", Count: 6}}; !slices.Equal(other, want) {
		t.Errorf("one answer changed another one: %v", other)
	}
	check(t, s, m, 0, "a", "b")
}

// P4, P6.3: a Fork has the same, and what becomes of the one changes nothing of the other one.
func TestFork(t *testing.T) {
	x := shape{width: 1000, buckets: 10, rows: 3, columns: 16, seed: 8}
	a, one, other := sketchOf(t, x), &model{shape: x}, &model{shape: x}
	add(t, a, 0, "a", 3)
	add(t, a, 250, "b", 4)
	for _, m := range []*model{one, other} {
		m.add(0, "a", 3)
		m.add(250, "b", 4)
	}
	b := a.Fork()
	both := func(at int) {
		t.Helper()
		check(t, a, one, max(at, one.last), "a", "b", "c")
		check(t, b, other, max(at, other.last), "a", "b", "c")
	}
	both(250)
	for row := range x.rows {
		if got, err := b.Column(row, "a"); got != one.column(row, "a") || err != api.OK {
			t.Errorf("of the Fork: Column(%d) = %d, %v", row, got, err)
		}
	}
	add(t, a, 250, "b", 10)
	one.add(250, "b", 10)
	both(250)
	add(t, b, 299, "a", 100)
	other.add(299, "a", 100)
	both(299)
	add(t, a, 300, "c", 7)
	one.add(300, "c", 7)
	add(t, b, 310, "b", 8)
	other.add(310, "b", 8)
	both(310)
	add(t, a, 5000, "a")
	one.add(5000, "a")
	both(999)
}

// P1, P2: a nil sketch answers zero values, or ErrNil, which is named first.
func TestNilSketch(t *testing.T) {
	var s *sketch.Sketch
	for _, at := range []int{-1, 0, 5, api.MaxTime + 1} {
		for _, n := range [][]int{nil, {1}, {-1}} {
			if err := s.Add(at, "a", n...); err != api.ErrNil {
				t.Errorf("Add(%d, %v) = %v", at, n, err)
			}
		}
		if got, err := s.Estimate(at, "a"); got != 0 || err != api.ErrNil {
			t.Errorf("Estimate(%d) = %d, %v", at, got, err)
		}
		if got, err := s.Total(at); got != 0 || err != api.ErrNil {
			t.Errorf("Total(%d) = %d, %v", at, got, err)
		}
		for _, k := range []int{-1, 0, 2} {
			if got, err := s.Top(at, k, "a"); len(got) != 0 || err != api.ErrNil {
				t.Errorf("Top(%d, %d) = %v, %v", at, k, got, err)
			}
		}
	}
	for _, row := range []int{-1, 0} {
		if got, err := s.Column(row, "a"); got != 0 || err != api.ErrNil {
			t.Errorf("Column(%d) = %d, %v", row, got, err)
		}
	}
	if s.Last() != 0 || s.Fork() != nil {
		t.Errorf("Last %d, Fork %v", s.Last(), s.Fork())
	}
}
