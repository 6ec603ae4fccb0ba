package world_test

import (
	"math"
	"slices"
	"testing"

	"spillway/api"
	"spillway/world"
)

func sample(at, load, cpu int) world.Sample {
	return world.Sample{At: at, Load: load, Cpu: cpu}
}

func loadOf(t *testing.T, s ...world.Sample) *world.Load {
	t.Helper()
	l, err := world.NewLoad(s...)
	if err != api.OK || l == nil {
		t.Fatalf("NewLoad(%v): %v, %v", s, l, err)
	}
	return l
}

// many are so many samples, one a microsecond, from a time on.
func many(from, n int) []world.Sample {
	l := make([]world.Sample, n)
	for i := range l {
		l[i] = sample(from+i, i, 1)
	}
	return l
}

// P2.3: what Add takes and what it does not; of several the first sample's error, and of its errors the one named first.
func TestAdd(t *testing.T) {
	tests := []struct {
		name string
		add  []world.Sample
		err  api.Errno
	}{
		{"none", nil, api.OK},
		{"behind", []world.Sample{sample(11, 1, 2)}, api.OK},
		{"at the last one's time", []world.Sample{sample(10, 1, 2), sample(10, 3, 4)}, api.OK},
		{"at all edges", []world.Sample{sample(10, 0, 0), sample(api.MaxTime, api.MaxCount, api.MaxCount)}, api.OK},
		{"a time below 0", []world.Sample{sample(-1, 1, 2)}, api.ErrRange},
		{"the least time", []world.Sample{sample(math.MinInt, 1, 2)}, api.ErrRange},
		{"a time above all", []world.Sample{sample(api.MaxTime+1, 1, 2)}, api.ErrRange},
		{"a load below 0", []world.Sample{sample(11, -1, 2)}, api.ErrRange},
		{"a load above all", []world.Sample{sample(11, api.MaxCount+1, 2)}, api.ErrRange},
		{"a share below 0", []world.Sample{sample(11, 1, -1)}, api.ErrRange},
		{"a share above all", []world.Sample{sample(11, 1, api.MaxCount+1)}, api.ErrRange},
		{"back", []world.Sample{sample(9, 1, 2)}, api.ErrBack},
		{"back among them", []world.Sample{sample(12, 1, 2), sample(11, 1, 2)}, api.ErrBack},
		{"back, and a load that may not be", []world.Sample{sample(9, -1, 2)}, api.ErrRange},
		{"back ahead of what may not be", []world.Sample{sample(9, 1, 2), sample(-1, 1, 2)}, api.ErrBack},
		{"what may not be ahead of back", []world.Sample{sample(-1, 1, 2), sample(9, 1, 2)}, api.ErrRange},
		{"the last one of three", []world.Sample{sample(11, 1, 2), sample(12, 1, 2), sample(13, 1, -2)}, api.ErrRange},
	}
	for _, x := range tests {
		there := []world.Sample{sample(5, 50, 500), sample(10, 100, 1000)}
		l := loadOf(t, there...)
		if err := l.Add(x.add...); err != x.err {
			t.Errorf("%s: %v, want %v", x.name, err, x.err)
		}
		want := there
		if x.err == api.OK {
			want = append(want, x.add...)
		}
		if got := l.Samples(); !slices.Equal(got, want) {
			t.Errorf("%s: then there are %v, want %v", x.name, got, want)
		}
	}
}

// P2.3: at most MaxOps samples; ErrFull is that of the first one too many, and named behind the others of its own.
func TestAddFull(t *testing.T) {
	full := func() *world.Load { return loadOf(t, many(0, api.MaxOps)...) }
	bad := sample(api.MaxTime, -1, 0)
	tests := []struct {
		name string
		load *world.Load
		add  []world.Sample
		err  api.Errno
	}{
		{"all at once", loadOf(t), many(0, api.MaxOps), api.OK},
		{"up to the last one", loadOf(t, many(0, 7)...), many(7, api.MaxOps-7), api.OK},
		{"none more", full(), nil, api.OK},
		{"one too many", full(), many(api.MaxOps, 1), api.ErrFull},
		{"one too many at once", loadOf(t), many(0, api.MaxOps+1), api.ErrFull},
		{"one too many of some", loadOf(t, many(0, 7)...), many(7, api.MaxOps-6), api.ErrFull},
		{"one that may not be", full(), []world.Sample{bad}, api.ErrRange},
		{"one that is back", full(), []world.Sample{sample(0, 1, 1)}, api.ErrBack},
		{"too many ahead of one that may not be", loadOf(t), append(many(0, api.MaxOps+1), bad), api.ErrFull},
		{"one that may not be ahead of too many", loadOf(t), append([]world.Sample{bad}, many(0, api.MaxOps+1)...), api.ErrRange},
	}
	for _, x := range tests {
		there := x.load.Samples()
		if err := x.load.Add(x.add...); err != x.err {
			t.Errorf("%s: %v, want %v", x.name, err, x.err)
		}
		want := there
		if x.err == api.OK {
			want = append(slices.Clone(there), x.add...)
		}
		if got := x.load.Samples(); !slices.Equal(got, want) {
			t.Errorf("%s: then there are %d samples, want %d", x.name, len(got), len(want))
		}
	}
}

// P2.3: NewLoad has Add's errors, and no load beside one.
func TestNewLoad(t *testing.T) {
	if l := loadOf(t); len(l.Samples()) != 0 || l.At(api.MaxTime) != (world.Sample{}) {
		t.Errorf("an empty load: %v", l.Samples())
	}
	l := loadOf(t, sample(0, 1, 2), sample(0, 3, 4))
	if got, want := l.Samples(), []world.Sample{sample(0, 1, 2), sample(0, 3, 4)}; !slices.Equal(got, want) {
		t.Errorf("Samples = %v, want %v", got, want)
	}
	tests := []struct {
		l   []world.Sample
		err api.Errno
	}{
		{[]world.Sample{sample(-1, 0, 0)}, api.ErrRange},
		{[]world.Sample{sample(2, 0, 0), sample(1, 0, 0)}, api.ErrBack},
		{many(0, api.MaxOps+1), api.ErrFull},
	}
	for _, x := range tests {
		if l, err := world.NewLoad(x.l...); l != nil || err != x.err {
			t.Errorf("NewLoad: %v, %v, want %v", l, err, x.err)
		}
	}
}

// P2.3: At is the last sample whose time is not above; the document's example.
func TestAt(t *testing.T) {
	l := loadOf(t, sample(10, 1500, 300), sample(20, 900, 100), sample(20, 800, 200), sample(30, 0, 0))
	tests := []struct {
		at   int
		want world.Sample
	}{
		{math.MinInt, world.Sample{}},
		{-1, world.Sample{}},
		{0, world.Sample{}},
		{9, world.Sample{}},
		{10, sample(10, 1500, 300)},
		{15, sample(10, 1500, 300)},
		{19, sample(10, 1500, 300)},
		{20, sample(20, 800, 200)},
		{29, sample(20, 800, 200)},
		{30, sample(30, 0, 0)},
		{api.MaxTime, sample(30, 0, 0)},
		{math.MaxInt, sample(30, 0, 0)},
	}
	for _, x := range tests {
		if got := l.At(x.at); got != x.want {
			t.Errorf("At(%d) = %v, want %v", x.at, got, x.want)
		}
	}
	if got, want := loadOf(t, sample(0, 7, 8)).At(0), sample(0, 7, 8); got != want {
		t.Errorf("At(0) = %v, want %v", got, want)
	}
}

// P2.6: At changes just where a sample lies, and samples behind change nothing ahead of them.
func TestAtStaysBetween(t *testing.T) {
	var all []world.Sample
	l := loadOf(t)
	for i := range 40 {
		next := sample(i*i, 1000+i, i)
		was := answersOf(l, i*i)
		if err := l.Add(next); err != api.OK {
			t.Fatal(err)
		}
		if !slices.Equal(answersOf(l, i*i), was) {
			t.Errorf("a sample at %d changed what was ahead of it", i*i)
		}
		all = append(all, next)
	}
	now := world.Sample{}
	for at := range 40 * 40 {
		for len(all) > 0 && all[0].At == at {
			now, all = all[0], all[1:]
		}
		if got := l.At(at); got != now {
			t.Fatalf("At(%d) = %v, want %v", at, got, now)
		}
	}
}

// answersOf is what At tells ahead of a time.
func answersOf(l *world.Load, end int) []world.Sample {
	var all []world.Sample
	for at := range end {
		all = append(all, l.At(at))
	}
	return all
}

// P3: what is handed in is neither changed nor kept, spare room behind a list's end too.
func TestLoadKeepsNoList(t *testing.T) {
	given := many(0, 8)
	was := slices.Clone(given)
	l := loadOf(t, given[:3]...)
	if err := l.Add(given[3:5]...); err != api.OK {
		t.Fatal(err)
	}
	if err := l.Add(sample(100, 1, 1)); err != api.OK {
		t.Fatal(err)
	}
	if !slices.Equal(given, was) {
		t.Errorf("what was handed in became %v", given)
	}
	want := l.Samples()
	for i := range given {
		given[i] = sample(77, 77, 77)
	}
	if got := l.Samples(); !slices.Equal(got, want) {
		t.Errorf("with the list that was handed in the load became %v", got)
	}
}

// P3: what Samples answered is the caller's, and shares no room with another answer.
func TestSamplesAreTheCallers(t *testing.T) {
	want := many(0, 5)
	l := loadOf(t, want...)
	a, b := l.Samples(), l.Samples()
	a[2] = sample(77, 77, 77)
	if !slices.Equal(b, want) || !slices.Equal(l.Samples(), want) || l.At(2) != want[2] {
		t.Errorf("one answer changed another one: %v", l.Samples())
	}
	_ = append(b, sample(9, 9, 9))
	l.Add(sample(8, 8, 8))
	_ = append(b, sample(9, 9, 9))
	if got := l.At(8); got != sample(8, 8, 8) {
		t.Errorf("behind what was answered a sample became %v", got)
	}
}

// P4: of a load and its Fork the one has none of the samples that the other one gets, however much room there was.
func TestLoadFork(t *testing.T) {
	for n := range 20 {
		a := loadOf(t)
		for _, s := range many(0, n) {
			a.Add(s)
		}
		b := a.Fork()
		if !slices.Equal(a.Samples(), b.Samples()) {
			t.Fatalf("of %d: a Fork of %v", n, b.Samples())
		}
		a.Add(sample(100, 1, 1))
		b.Add(sample(200, 2, 2))
		wantA, wantB := append(many(0, n), sample(100, 1, 1)), append(many(0, n), sample(200, 2, 2))
		if got := a.Samples(); !slices.Equal(got, wantA) {
			t.Errorf("of %d: the one has %v", n, got)
		}
		if got := b.Samples(); !slices.Equal(got, wantB) {
			t.Errorf("of %d: its Fork has %v", n, got)
		}
	}
}

// P1, P2: a nil load answers zero values, or ErrNil, which is named first.
func TestNilLoad(t *testing.T) {
	var l *world.Load
	for _, s := range [][]world.Sample{nil, many(0, 1), {sample(-1, 0, 0)}} {
		if err := l.Add(s...); err != api.ErrNil {
			t.Errorf("Add(%v) = %v", s, err)
		}
	}
	if got := l.At(5); got != (world.Sample{}) {
		t.Errorf("At = %v", got)
	}
	if got := l.Samples(); len(got) != 0 {
		t.Errorf("Samples = %v", got)
	}
	if got := l.Fork(); got != nil {
		t.Errorf("Fork = %v", got)
	}
}
