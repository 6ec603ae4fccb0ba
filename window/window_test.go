package window_test

import (
	"math"
	"math/rand"
	"slices"
	"testing"

	"spillway/api"
	"spillway/window"
)

func windowOf(t *testing.T, width, buckets int) *window.Window {
	t.Helper()
	w, err := window.New(width, buckets)
	if err != api.OK || w == nil {
		t.Fatalf("New(%d, %d): %v, %v", width, buckets, w, err)
	}
	return w
}

func add(t *testing.T, w *window.Window, at int, l ...api.Counts) {
	t.Helper()
	if err := w.Add(at, l...); err != api.OK {
		t.Fatalf("Add(%d, %v) = %v", at, l, err)
	}
}

func passes(n int) api.Counts { return api.Counts{Pass: n} }

// noted is what was noted at a time.
type noted struct {
	at int
	api.Counts
}

// model is a window as the document tells of it: all that was noted, and nothing reckoned ahead.
type model struct {
	width, size int
	all         []noted
}

func (m *model) add(at int, l ...api.Counts) {
	for _, c := range l {
		m.all = append(m.all, noted{at, c})
	}
}

// number is the bucket in which a time lies, counted from 0 on.
func (m *model) number(at int) int { return at / (m.width / m.size) }

func (m *model) in(number int) api.Counts {
	var l []api.Counts
	for _, x := range m.all {
		if m.number(x.at) == number {
			l = append(l, x.Counts)
		}
	}
	return together(l...)
}

func (m *model) buckets(at int) []window.Bucket {
	var l []window.Bucket
	for i := m.number(at) - m.size + 1; i <= m.number(at); i++ {
		if c := m.in(i); c != (api.Counts{}) {
			l = append(l, window.Bucket{At: i * (m.width / m.size), Counts: c})
		}
	}
	return l
}

func (m *model) sum(at int) api.Counts {
	var l []api.Counts
	for _, b := range m.buckets(at) {
		l = append(l, b.Counts)
	}
	return together(l...)
}

func (m *model) most(at int) int {
	most := 0
	for _, b := range m.buckets(at) {
		if m.number(b.At) != m.number(at) {
			most = max(most, b.Pass)
		}
	}
	return most
}

// checkAll holds a window against the document at a time.
func checkAll(t *testing.T, w *window.Window, m *model, at int) {
	t.Helper()
	if got, err := w.Sum(at); err != api.OK || got != m.sum(at) {
		t.Fatalf("%d in %d: Sum(%d) = %+v, %v, want %+v", m.width, m.size, at, got, err, m.sum(at))
	}
	if got, err := w.Buckets(at); err != api.OK || !slices.Equal(got, m.buckets(at)) {
		t.Fatalf("%d in %d: Buckets(%d) = %+v, %v, want %+v", m.width, m.size, at, got, err, m.buckets(at))
	}
	if got, err := w.Most(at); err != api.OK || got != m.most(at) {
		t.Fatalf("%d in %d: Most(%d) = %d, %v, want %d", m.width, m.size, at, got, err, m.most(at))
	}
}

// checkNothing says that a window has noted nothing, at no time.
func checkNothing(t *testing.T, w *window.Window) {
	t.Helper()
	if got := w.Last(); got != 0 {
		t.Errorf("Last = %d", got)
	}
	for _, at := range []int{0, 1, w.Width(), api.MaxTime} {
		checkAll(t, w, &model{width: w.Width(), size: w.Size()}, at)
	}
}

// P3.1: New takes widths and buckets to their limits, and buckets that divide the width; ErrRange is named first.
func TestNew(t *testing.T) {
	tests := []struct {
		width, buckets int
		err            api.Errno
	}{
		{1, 1, api.OK},
		{1000, 10, api.OK},
		{60, 60, api.OK},
		{7, 7, api.OK},
		{api.MaxWidth, 1, api.OK},
		{api.MaxWidth, 32, api.OK},
		{api.MaxWidth - api.MaxWidth%api.MaxBuckets, api.MaxBuckets, api.OK},
		{0, 1, api.ErrRange},
		{-1, 1, api.ErrRange},
		{math.MinInt, 1, api.ErrRange},
		{api.MaxWidth + 1, 1, api.ErrRange},
		{math.MaxInt, 1, api.ErrRange},
		{1000, 0, api.ErrRange},
		{1000, -1, api.ErrRange},
		{1000, -10, api.ErrRange},
		{1000, math.MinInt, api.ErrRange},
		{122, api.MaxBuckets + 1, api.ErrRange},
		{math.MaxInt, math.MaxInt, api.ErrRange},
		{0, 0, api.ErrRange},
		{0, 10, api.ErrRange},
		{-10, 3, api.ErrRange},
		{1000, api.MaxBuckets + 1, api.ErrRange},
		{1000, 3, api.ErrForm},
		{5, 10, api.ErrForm},
		{1, 2, api.ErrForm},
		{api.MaxWidth, api.MaxBuckets, api.ErrForm},
		{api.MaxWidth, 3, api.ErrForm},
	}
	for _, x := range tests {
		w, err := window.New(x.width, x.buckets)
		if err != x.err || (w == nil) != (x.err != api.OK) {
			t.Errorf("New(%d, %d): %v, %v, want %v", x.width, x.buckets, w, err, x.err)
		}
		if err == api.OK {
			checkNothing(t, w)
		}
	}
}

// P3.3: Width and Size as they say, also of a Fork.
func TestWidthAndSize(t *testing.T) {
	for _, x := range [][2]int{{1, 1}, {1000, 10}, {api.MaxWidth, 1}, {120, 60}} {
		w := windowOf(t, x[0], x[1])
		for _, w := range []*window.Window{w, w.Fork()} {
			if w.Width() != x[0] || w.Size() != x[1] {
				t.Errorf("of %v: %d, %d", x, w.Width(), w.Size())
			}
		}
	}
}

// P3.2: Add's errors, in their order; with one nothing is noted, not even the time.
func TestAddErrors(t *testing.T) {
	wrong := api.Counts{Pass: -1}
	tests := []struct {
		name string
		at   int
		l    []api.Counts
		err  api.Errno
	}{
		{"below 0", -1, []api.Counts{passes(1)}, api.ErrRange},
		{"the least", math.MinInt, []api.Counts{passes(1)}, api.ErrRange},
		{"above all", api.MaxTime + 1, []api.Counts{passes(1)}, api.ErrRange},
		{"the greatest", math.MaxInt, nil, api.ErrRange},
		{"below 0, and wrong", -1, []api.Counts{wrong}, api.ErrRange},
		{"back", 499, []api.Counts{passes(1)}, api.ErrBack},
		{"back, without counts", 0, nil, api.ErrBack},
		{"back, and wrong", 499, []api.Counts{wrong}, api.ErrBack},
		{"wrong", 500, []api.Counts{wrong}, api.ErrForm},
		{"the last one wrong", 700, []api.Counts{passes(1), passes(2), wrong}, api.ErrForm},
		{"the first one wrong", 99999, []api.Counts{wrong, passes(1), passes(2)}, api.ErrForm},
	}
	for _, x := range tests {
		w, m := windowOf(t, 1000, 10), &model{width: 1000, size: 10}
		add(t, w, 500, full())
		m.add(500, full())
		if err := w.Add(x.at, x.l...); err != x.err {
			t.Errorf("%s: %v, want %v", x.name, err, x.err)
		}
		if got := w.Last(); got != 500 {
			t.Errorf("%s: Last = %d", x.name, got)
		}
		checkAll(t, w, m, 500)
		checkAll(t, w, m, 700)
	}
}

// P3.2: Add takes counts that are right, and has ErrForm of any that are not.
func TestAddTakesTheRight(t *testing.T) {
	for name, c := range rightCounts() {
		w, m := windowOf(t, 1000, 10), &model{width: 1000, size: 10}
		add(t, w, 5, full(), c)
		m.add(5, full(), c)
		if got, _ := w.Sum(5); got != together(full(), c) {
			t.Errorf("%s: %+v", name, got)
		}
		checkAll(t, w, m, 5)
	}
	for name, c := range wrongCounts() {
		w := windowOf(t, 1000, 10)
		if err := w.Add(5, c); err != api.ErrForm {
			t.Errorf("%s: %v", name, err)
		}
		checkNothing(t, w)
	}
}

// P3.2: the time is noted, also without counts, or with none in them; the same time again is not back.
func TestAddNotesTheTime(t *testing.T) {
	for name, l := range map[string][]api.Counts{"no counts": nil, "nothing in them": {{}}, "some": {full()}} {
		w := windowOf(t, 1000, 10)
		for _, at := range []int{0, 0, 7, 7, 1000, api.MaxTime, api.MaxTime} {
			add(t, w, at, l...)
			if got := w.Last(); got != at {
				t.Errorf("%s: Last = %d, want %d", name, got, at)
			}
			if err := w.Add(at-1, l...); at > 0 && err != api.ErrBack {
				t.Errorf("%s: behind %d, Add(%d) = %v", name, at, at-1, err)
			}
		}
	}
}

// P3.2: what a bucket had stays beside what comes, also what it had at another time in it; and at most 2^62.
func TestAddInOneBucket(t *testing.T) {
	w, m := windowOf(t, 1000, 10), &model{width: 1000, size: 10}
	great := api.Counts{Pass: most - 3, Block: most, Done: most, Errors: 1, RtSum: most, MinRt: 20}
	for _, x := range []noted{{100, passes(1)}, {100, full()}, {199, full()}, {199, great}, {199, full()}} {
		add(t, w, x.at, x.Counts)
		m.add(x.at, x.Counts)
		checkAll(t, w, m, x.at)
	}
	if got, _ := w.Sum(199); got != (api.Counts{Pass: most, Block: most, Done: most, Errors: 7, RtSum: most, MinRt: 13}) {
		t.Errorf("Sum = %+v", got)
	}
	add(t, w, 200, great)
	if got, _ := w.Sum(200); got.Pass != most || got.RtSum != most || got.Errors != 8 || got.MinRt != 13 {
		t.Errorf("two buckets together: %+v", got)
	}
}

// P3.3: the document's example.
func TestWindowExample(t *testing.T) {
	w := windowOf(t, 1000, 10)
	add(t, w, 0, passes(1))
	add(t, w, 950, passes(2))
	if got, _ := w.Sum(999); got != passes(3) {
		t.Errorf("at 999: %+v", got)
	}
	if got, _ := w.Sum(1000); got != passes(2) {
		t.Errorf("at 1000: %+v", got)
	}
}

// P3.3: Buckets tells where each begins, rising, without those in which nothing happened.
func TestBuckets(t *testing.T) {
	w := windowOf(t, 1000, 10)
	add(t, w, 99, passes(1))
	add(t, w, 100, full())
	add(t, w, 250, api.Counts{})
	add(t, w, 399)
	add(t, w, 950, passes(4), api.Counts{Block: 1})
	bucket := func(at int, c api.Counts) window.Bucket { return window.Bucket{At: at, Counts: c} }
	last := bucket(900, api.Counts{Pass: 4, Block: 1})
	tests := []struct {
		at   int
		want []window.Bucket
	}{
		{950, []window.Bucket{bucket(0, passes(1)), bucket(100, full()), last}},
		{999, []window.Bucket{bucket(0, passes(1)), bucket(100, full()), last}},
		{1000, []window.Bucket{bucket(100, full()), last}},
		{1099, []window.Bucket{bucket(100, full()), last}},
		{1100, []window.Bucket{last}},
		{1899, []window.Bucket{last}},
		{1900, nil},
		{api.MaxTime, nil},
	}
	for _, x := range tests {
		if got, err := w.Buckets(x.at); err != api.OK || !slices.Equal(got, x.want) {
			t.Errorf("Buckets(%d) = %+v, %v, want %+v", x.at, got, err, x.want)
		}
	}
}

// P3.3: Most leaves the bucket out in which the time lies, and what left the window.
func TestMost(t *testing.T) {
	w := windowOf(t, 1000, 10)
	add(t, w, 0, passes(9))
	add(t, w, 150, passes(5), api.Counts{Block: 99, Done: 99, RtSum: 99})
	add(t, w, 200, passes(7))
	add(t, w, 700, passes(20))
	tests := []struct{ at, want int }{
		{700, 9}, {799, 9}, {800, 20}, {999, 20}, {1000, 20}, {1699, 20}, {1700, 0}, {api.MaxTime, 0},
	}
	for _, x := range tests {
		if got, err := w.Most(x.at); err != api.OK || got != x.want {
			t.Errorf("Most(%d) = %d, %v, want %d", x.at, got, err, x.want)
		}
	}
	one := windowOf(t, 1000, 1)
	add(t, one, 5, passes(5))
	for _, at := range []int{5, 999, 1000, 2000} {
		if got, err := one.Most(at); err != api.OK || got != 0 {
			t.Errorf("in 1 bucket Most(%d) = %d, %v", at, got, err)
		}
	}
}

// P3.3: Sum, Buckets and Most of a time that may not be: ErrRange, then ErrBack, and nothing beside.
func TestAskingErrors(t *testing.T) {
	w := windowOf(t, 1000, 10)
	add(t, w, 500, full())
	tests := []struct {
		at  int
		err api.Errno
	}{
		{-1, api.ErrRange}, {math.MinInt, api.ErrRange}, {api.MaxTime + 1, api.ErrRange}, {math.MaxInt, api.ErrRange},
		{0, api.ErrBack}, {499, api.ErrBack},
	}
	for _, x := range tests {
		checkRefused(t, w, x.at, x.err)
	}
}

func checkRefused(t *testing.T, w *window.Window, at int, want api.Errno) {
	t.Helper()
	if c, err := w.Sum(at); c != (api.Counts{}) || err != want {
		t.Errorf("Sum(%d) = %v, %v, want %v", at, c, err, want)
	}
	if l, err := w.Buckets(at); len(l) != 0 || err != want {
		t.Errorf("Buckets(%d) = %v, %v, want %v", at, l, err, want)
	}
	if n, err := w.Most(at); n != 0 || err != want {
		t.Errorf("Most(%d) = %d, %v, want %v", at, n, err, want)
	}
}

// P3.3: asking notes nothing: behind it a time ahead of the one that was asked can be noted, with all that was there.
func TestAskingNotesNothing(t *testing.T) {
	w, m := windowOf(t, 1000, 10), &model{width: 1000, size: 10}
	add(t, w, 100, full())
	m.add(100, full())
	for _, at := range []int{150, 5000, api.MaxTime} {
		checkAll(t, w, m, at)
	}
	if got := w.Last(); got != 100 {
		t.Errorf("Last = %d", got)
	}
	add(t, w, 101, passes(1))
	m.add(101, passes(1))
	for _, at := range []int{101, 500, 1099, 1100} {
		checkAll(t, w, m, at)
	}
}

// P3.2, P3.3: windows of all kinds against the document, noted at times near and far.
func TestAgainstModel(t *testing.T) {
	r := rand.New(rand.NewSource(3))
	for _, kind := range [][2]int{{1, 1}, {5, 5}, {6, 2}, {10, 1}, {1000, 10}, {60, 60}, {120, 60}, {api.MaxWidth, 8}} {
		for range 10 {
			w, m := windowOf(t, kind[0], kind[1]), &model{width: kind[0], size: kind[1]}
			at := r.Intn(2 * kind[0])
			for range 40 {
				at += step(r, kind[0])
				l := someCounts(r)
				add(t, w, at, l...)
				m.add(at, l...)
				checkAll(t, w, m, at)
				checkAll(t, w, m, at+step(r, kind[0]))
			}
		}
	}
}

// step is a way ahead: none, within a bucket or so, or beyond the window.
func step(r *rand.Rand, width int) int {
	switch r.Intn(4) {
	case 0:
		return 0
	case 1:
		return r.Intn(width/5 + 2)
	case 2:
		return r.Intn(width + 1)
	}
	return r.Intn(3*width + 1)
}

// someCounts are up to three counts that are right, some of them great.
func someCounts(r *rand.Rand) []api.Counts {
	l := make([]api.Counts, r.Intn(4))
	for i := range l {
		limit := 10
		if r.Intn(10) == 0 {
			limit = most
		}
		l[i] = api.Counts{Pass: r.Intn(limit), Block: r.Intn(limit), Done: r.Intn(limit)}
		if l[i].Done > 0 {
			l[i].Errors, l[i].RtSum = r.Intn(l[i].Done+1), r.Intn(limit)
			l[i].MinRt = r.Intn(l[i].RtSum + 1)
		}
	}
	return l
}

// P3.4: what was noted in a time that is width less one bucket long, wherever it begins, is in the window at its end.
func TestWithinOneWindow(t *testing.T) {
	const width, size = 60, 6
	for from := range 2 * width {
		w := windowOf(t, width, size)
		for at := from; at <= from+width-width/size; at++ {
			add(t, w, at, passes(1))
		}
		end := from + width - width/size
		if got, _ := w.Sum(end); got.Pass != width-width/size+1 {
			t.Errorf("from %d: of %d there are %d", from, width-width/size+1, got.Pass)
		}
	}
}

// P3.5: where nothing is noted between, no field of a later Sum is greater, but MinRt, which grows when the least leaves.
func TestLaterSumIsNotGreater(t *testing.T) {
	r := rand.New(rand.NewSource(35))
	w := windowOf(t, 100, 10)
	for at := 0; at < 2000; at += r.Intn(15) {
		add(t, w, at, someCounts(r)...)
		ahead, _ := w.Sum(at)
		for later := at; later < at+120; later++ {
			c, _ := w.Sum(later)
			if c.Pass > ahead.Pass || c.Block > ahead.Block || c.Done > ahead.Done || c.Errors > ahead.Errors || c.RtSum > ahead.RtSum {
				t.Fatalf("at %d: %+v, and ahead of it %+v", later, c, ahead)
			}
			ahead = c
		}
	}
	grows := windowOf(t, 100, 10)
	add(t, grows, 0, api.Counts{Done: 1, RtSum: 3, MinRt: 3})
	add(t, grows, 50, api.Counts{Done: 1, RtSum: 8, MinRt: 8})
	for at, want := range map[int]int{50: 3, 99: 3, 100: 8, 149: 8, 150: 0} {
		if got, _ := grows.Sum(at); got.MinRt != want {
			t.Errorf("at %d the least is %d, want %d", at, got.MinRt, want)
		}
	}
}

// P3.6: noted at once, or one behind the other in one bucket, is the same.
func TestAtOnceOrBehind(t *testing.T) {
	r := rand.New(rand.NewSource(36))
	for range 200 {
		l := someCounts(r)
		once, behind := windowOf(t, 100, 10), windowOf(t, 100, 10)
		add(t, once, 12, full())
		add(t, behind, 12, full())
		add(t, once, 18, l...)
		for i, c := range l {
			add(t, behind, 13+i, c)
		}
		for _, at := range []int{18, 20, 109, 110} {
			a, _ := once.Buckets(at)
			b, _ := behind.Buckets(at)
			if !slices.Equal(a, b) {
				t.Fatalf("%v, at %d: at once %v, behind %v", l, at, a, b)
			}
		}
	}
}

// P3: what is handed to Add is neither changed nor kept, spare room behind the list's end too.
func TestAddKeepsNoList(t *testing.T) {
	l := []api.Counts{passes(1), passes(2), passes(4), passes(8)}
	was := slices.Clone(l)
	w := windowOf(t, 1000, 10)
	add(t, w, 5, l[:3]...)
	add(t, w, 6, l[:1]...)
	if !slices.Equal(l, was) {
		t.Errorf("the list became %v", l)
	}
	for i := range l {
		l[i] = passes(77)
	}
	if got, _ := w.Sum(6); got != passes(8) {
		t.Errorf("with the list the window became %+v", got)
	}
}

// P3: what Buckets answered is the caller's, spare room behind its end too.
func TestBucketsAreTheCallers(t *testing.T) {
	w, m := windowOf(t, 1000, 10), &model{width: 1000, size: 10}
	for at := range 5 {
		add(t, w, at*100, passes(at+1))
		m.add(at*100, passes(at+1))
	}
	a, _ := w.Buckets(400)
	b, _ := w.Buckets(400)
	for i := range a {
		a[i] = window.Bucket{At: 7, Counts: passes(77)}
	}
	_ = append(b[:2], window.Bucket{At: 7})
	checkAll(t, w, m, 400)
	add(t, w, 450, passes(1))
	m.add(450, passes(1))
	if b[4].Counts != passes(5) {
		t.Errorf("what was answered became %v", b)
	}
	_ = append(b, window.Bucket{At: 7})
	checkAll(t, w, m, 450)
}

// P4: of a window and its Fork the one has nothing of what the other one notes.
func TestFork(t *testing.T) {
	for n := range 12 {
		a, one, other := windowOf(t, 1000, 10), &model{width: 1000, size: 10}, &model{width: 1000, size: 10}
		for i := range n {
			add(t, a, i*100, full())
			one.add(i*100, full())
			other.add(i*100, full())
		}
		b, last := a.Fork(), a.Last()
		checkAll(t, b, other, last)
		add(t, a, last, passes(1))
		one.add(last, passes(1))
		checkAll(t, b, other, last)
		add(t, b, last+100, passes(5))
		other.add(last+100, passes(5))
		if a.Last() != last || b.Last() != last+100 {
			t.Errorf("of %d: Last is %d, and of the Fork %d", n, a.Last(), b.Last())
		}
		add(t, a, last+500, passes(2))
		one.add(last+500, passes(2))
		for _, at := range []int{last + 500, last + 999, last + 1100} {
			checkAll(t, a, one, at)
			checkAll(t, b, other, at)
		}
	}
}

// P1, P2: a nil window answers zero values, or ErrNil, which is named first.
func TestNilWindow(t *testing.T) {
	var w *window.Window
	for _, at := range []int{-1, 0, 5, api.MaxTime + 1} {
		for _, l := range [][]api.Counts{nil, {full()}, {{Pass: -1}}} {
			if err := w.Add(at, l...); err != api.ErrNil {
				t.Errorf("Add(%d, %v) = %v", at, l, err)
			}
		}
		checkRefused(t, w, at, api.ErrNil)
	}
	if w.Last() != 0 || w.Width() != 0 || w.Size() != 0 || w.Fork() != nil {
		t.Errorf("Last %d, Width %d, Size %d, Fork %v", w.Last(), w.Width(), w.Size(), w.Fork())
	}
}
