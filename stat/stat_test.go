package stat_test

import (
	"math"
	"math/rand"
	"slices"
	"testing"

	"spillway/api"
	"spillway/stat"
	"spillway/window"
)

const most = 1 << 62

func check(t *testing.T, what string, err api.Errno) {
	t.Helper()
	if err != api.OK {
		t.Fatalf("%s: %v", what, err)
	}
}

// want holds what a call answered against what it should.
func want(t *testing.T, what string, got int, err api.Errno, n int, e api.Errno) {
	t.Helper()
	if got != n || err != e {
		t.Errorf("%s = %d, %v, want %d, %v", what, got, err, n, e)
	}
}

// told is all that a node tells at a time.
type told struct {
	sum                                    api.Counts
	past, most, least, mean, ratio, flight int
	last                                   int
}

func tell(t *testing.T, n *stat.Node, at int) told {
	t.Helper()
	var x told
	var err api.Errno
	x.sum, err = n.Sum(at)
	check(t, "Sum", err)
	for what, call := range map[string]struct {
		ask func(int) (int, api.Errno)
		to  *int
	}{
		"Past": {n.Past, &x.past}, "Most": {n.Most, &x.most}, "Least": {n.Least, &x.least},
		"Mean": {n.Mean, &x.mean}, "Ratio": {n.Ratio, &x.ratio},
	} {
		*call.to, err = call.ask(at)
		check(t, what, err)
	}
	x.flight, x.last = n.Flight(), n.Last()
	return x
}

// happened is what a node was told, at a time.
type happened struct {
	at int
	api.Counts
}

// model is a node as the document tells of it: all that happened, and nothing reckoned ahead.
type model struct {
	all          []happened
	flight, last int
}

func (m *model) note(at, flight int, l ...api.Counts) {
	for _, c := range l {
		m.all = append(m.all, happened{at, c})
	}
	m.flight += flight
	m.last = at
}

// between is what happened from a time on, ahead of an end.
func (m *model) between(from, end int) api.Counts {
	var l []api.Counts
	for _, x := range m.all {
		if x.at >= from && x.at < end {
			l = append(l, x.Counts)
		}
	}
	return window.Join(l...)
}

func (m *model) tell(at int) told {
	const tenth = api.Second / 10
	begin, second := at-at%tenth, at-at%api.Second
	sum := m.between(begin-9*tenth, begin+tenth)
	x := told{sum: sum, past: m.between(second-api.Second, second).Pass, least: sum.MinRt, flight: m.flight, last: m.last}
	for i := 1; i <= 9; i++ {
		x.most = max(x.most, m.between(begin-i*tenth, begin-(i-1)*tenth).Pass)
	}
	if sum.Done > 0 {
		x.mean, x.ratio = sum.RtSum/sum.Done, 1000*sum.Errors/sum.Done
	}
	return x
}

func checkTells(t *testing.T, n *stat.Node, m *model, at int) {
	t.Helper()
	if got, want := tell(t, n, at), m.tell(at); got != want {
		t.Fatalf("at %d it tells %+v, want %+v", at, got, want)
	}
}

// P4.1: at a new node nothing has happened, at no time.
func TestNew(t *testing.T) {
	n := stat.New()
	if n == nil {
		t.Fatal("no node")
	}
	for _, at := range []int{0, 1, 999999, api.Second, api.MaxTime} {
		checkTells(t, n, &model{}, at)
	}
	check(t, "Pass at 0", n.Pass(0, 1))
}

// P4.1, P4.2: the document's example.
func TestExample(t *testing.T) {
	n := stat.New()
	check(t, "Pass", n.Pass(100, 3))
	check(t, "Pass", n.Pass(950000, 1))
	for at, pass := range map[int]int{999999: 4, 1000000: 1} {
		if c, err := n.Sum(at); c != (api.Counts{Pass: pass}) || err != api.OK {
			t.Errorf("Sum(%d) = %+v, %v", at, c, err)
		}
	}
	for at, pass := range map[int]int{999999: 0, 1000000: 4, 1999999: 4, 2000000: 0} {
		got, err := n.Past(at)
		want(t, "Past", got, err, pass, api.OK)
	}
	if got := n.Flight(); got != 2 {
		t.Errorf("Flight = %d", got)
	}
	check(t, "Done", n.Done(1000000, 50, true))
	got, err := n.Mean(1000000)
	want(t, "Mean", got, err, 50, api.OK)
	got, err = n.Ratio(1000000)
	want(t, "Ratio", got, err, 1000, api.OK)
	if got := n.Flight(); got != 1 {
		t.Errorf("behind Done Flight = %d", got)
	}
}

// noted is a node that stands at 5000, with two in flight, one done, and its model.
func noted(t *testing.T) (*stat.Node, *model) {
	t.Helper()
	n, m := stat.New(), &model{}
	check(t, "Pass", n.Pass(4000, 3, 4, 5))
	m.note(4000, 3, api.Counts{Pass: 12})
	check(t, "Block", n.Block(4500, 7))
	m.note(4500, 0, api.Counts{Block: 7})
	check(t, "Done", n.Done(5000, 30, false))
	m.note(5000, -1, api.Counts{Done: 1, RtSum: 30, MinRt: 30})
	checkTells(t, n, m, 5000)
	return n, m
}

// P4.1, P4.7: the errors of Pass and Block, in their order; with one nothing changes.
func TestPassAndBlockErrors(t *testing.T) {
	tests := []struct {
		name   string
		at     int
		counts []int
		err    api.Errno
	}{
		{"a time below 0", -1, []int{1}, api.ErrRange},
		{"the least time", math.MinInt, nil, api.ErrRange},
		{"a time above all", api.MaxTime + 1, []int{1}, api.ErrRange},
		{"the greatest number", math.MaxInt, []int{1}, api.ErrRange},
		{"no tokens", 5000, []int{0}, api.ErrRange},
		{"tokens below 0", 5000, []int{-1}, api.ErrRange},
		{"the least number of tokens", 5000, []int{math.MinInt}, api.ErrRange},
		{"tokens above all", 5000, []int{api.MaxCount + 1}, api.ErrRange},
		{"the greatest number of tokens", 5000, []int{math.MaxInt}, api.ErrRange},
		{"the last one without tokens", 5000, []int{1, 2, 0}, api.ErrRange},
		{"the first one without tokens", 6000, []int{0, 1, 2}, api.ErrRange},
		{"back, and no tokens", 4999, []int{0}, api.ErrRange},
		{"back", 4999, []int{1}, api.ErrBack},
		{"back, without counts", 0, nil, api.ErrBack},
	}
	for _, x := range tests {
		n, m := noted(t)
		if err := n.Pass(x.at, x.counts...); err != x.err {
			t.Errorf("%s: Pass = %v, want %v", x.name, err, x.err)
		}
		checkTells(t, n, m, 5000)
		if err := n.Block(x.at, x.counts...); err != x.err {
			t.Errorf("%s: Block = %v, want %v", x.name, err, x.err)
		}
		checkTells(t, n, m, 5000)
		checkTells(t, n, m, api.Second+5000)
	}
}

// P4.1: at most MaxEntries entries are in flight; ErrFull is named last, and does not come up of Block.
func TestFull(t *testing.T) {
	ones := slices.Repeat([]int{1}, api.MaxEntries)
	tests := []struct {
		name   string
		there  int
		at     int
		counts []int
		err    api.Errno
	}{
		{"all at once", 0, 10, ones, api.OK},
		{"the last one", api.MaxEntries - 1, 10, []int{2}, api.OK},
		{"none more", api.MaxEntries, 11, nil, api.OK},
		{"one too many", api.MaxEntries, 10, []int{1}, api.ErrFull},
		{"one too many at once", 0, 10, append([]int{1}, ones...), api.ErrFull},
		{"one too many of two", api.MaxEntries - 1, 20, []int{1, 1}, api.ErrFull},
		{"too many, and back", api.MaxEntries, 9, []int{1}, api.ErrBack},
		{"too many, and no tokens", api.MaxEntries, 10, []int{1, 0}, api.ErrRange},
		{"too many, and above all", api.MaxEntries, api.MaxTime + 1, []int{1}, api.ErrRange},
	}
	for _, x := range tests {
		n, m := stat.New(), &model{}
		check(t, "Pass", n.Pass(10, ones[:x.there]...))
		m.note(10, x.there, api.Counts{Pass: x.there})
		if err := n.Pass(x.at, x.counts...); err != x.err {
			t.Errorf("%s: %v, want %v", x.name, err, x.err)
		}
		if x.err == api.OK {
			m.note(x.at, len(x.counts), api.Counts{Pass: sumOf(x.counts)})
		}
		checkTells(t, n, m, 30)
		check(t, x.name+": Block", n.Block(30, 1, 2, 3))
		m.note(30, 0, api.Counts{Block: 6})
		checkTells(t, n, m, 30)
	}
}

func sumOf(l []int) int {
	sum := 0
	for _, n := range l {
		sum += n
	}
	return sum
}

// P4.1: who is done makes room for one more.
func TestRoomAgain(t *testing.T) {
	n := stat.New()
	check(t, "Pass", n.Pass(0, slices.Repeat([]int{1}, api.MaxEntries)...))
	if err := n.Pass(0, 1); err != api.ErrFull {
		t.Errorf("Pass = %v", err)
	}
	check(t, "Done", n.Done(0, 0, false))
	check(t, "Pass", n.Pass(0, 1))
	if err := n.Pass(0, 1); err != api.ErrFull || n.Flight() != api.MaxEntries {
		t.Errorf("Pass = %v, Flight = %d", err, n.Flight())
	}
}

// P4.1, P4.7: the errors of Done, in their order; with one nothing changes.
func TestDoneErrors(t *testing.T) {
	tests := []struct {
		name   string
		at, rt int
		err    api.Errno
	}{
		{"a time below 0", -1, 1, api.ErrRange},
		{"a time above all", api.MaxTime + 1, 1, api.ErrRange},
		{"the least time", math.MinInt, 1, api.ErrRange},
		{"it took less than 0", 5000, -1, api.ErrRange},
		{"it took the least number", 5000, math.MinInt, api.ErrRange},
		{"it took more than all", 5000, api.MaxTime + 1, api.ErrRange},
		{"it took the greatest number", 5000, math.MaxInt, api.ErrRange},
		{"back, and less than 0", 4999, -1, api.ErrRange},
		{"back", 4999, 1, api.ErrBack},
	}
	for _, x := range tests {
		for _, failed := range []bool{false, true} {
			n, m := noted(t)
			if err := n.Done(x.at, x.rt, failed); err != x.err {
				t.Errorf("%s: %v, want %v", x.name, err, x.err)
			}
			checkTells(t, n, m, 5000)
		}
	}
}

// P4.1: Done of none in flight is ErrNone, named behind the others; then nothing changes.
func TestDoneOfNone(t *testing.T) {
	tests := []struct {
		at, rt int
		err    api.Errno
	}{
		{10, 5, api.ErrNone}, {2000000, 5, api.ErrNone}, {9, 5, api.ErrBack}, {10, -1, api.ErrRange}, {-1, 5, api.ErrRange},
	}
	for _, x := range tests {
		n, m := stat.New(), &model{}
		check(t, "Pass", n.Pass(10, 8))
		check(t, "Done", n.Done(10, 4, true))
		m.note(10, 0, api.Counts{Pass: 8, Done: 1, Errors: 1, RtSum: 4, MinRt: 4})
		if err := n.Done(x.at, x.rt, true); err != x.err {
			t.Errorf("Done(%d, %d) = %v, want %v", x.at, x.rt, err, x.err)
		}
		checkTells(t, n, m, 10)
	}
	if err := stat.New().Done(0, 0, false); err != api.ErrNone {
		t.Errorf("of a new node: %v", err)
	}
}

// P4.1: all edges of times, tokens and how long it took are taken.
func TestEdges(t *testing.T) {
	n, m := stat.New(), &model{}
	check(t, "Pass", n.Pass(0, 1, api.MaxCount))
	m.note(0, 2, api.Counts{Pass: 1 + api.MaxCount})
	checkTells(t, n, m, 0)
	check(t, "Block", n.Block(0, 1, api.MaxCount))
	m.note(0, 0, api.Counts{Block: 1 + api.MaxCount})
	check(t, "Done", n.Done(0, api.MaxTime, false))
	m.note(0, -1, api.Counts{Done: 1, RtSum: api.MaxTime, MinRt: api.MaxTime})
	checkTells(t, n, m, 0)
	check(t, "Done", n.Done(api.MaxTime, 0, true))
	m.note(api.MaxTime, -1, api.Counts{Done: 1, Errors: 1})
	checkTells(t, n, m, api.MaxTime)
	check(t, "Pass", n.Pass(api.MaxTime, api.MaxCount))
	m.note(api.MaxTime, 1, api.Counts{Pass: api.MaxCount})
	checkTells(t, n, m, api.MaxTime)
}

// P4.1: a call's time is noted, also without counts.
func TestTimeIsNoted(t *testing.T) {
	calls := map[string]func(n *stat.Node, at int) api.Errno{
		"Pass":                 func(n *stat.Node, at int) api.Errno { return n.Pass(at, 1) },
		"Pass without counts":  func(n *stat.Node, at int) api.Errno { return n.Pass(at) },
		"Block":                func(n *stat.Node, at int) api.Errno { return n.Block(at, 1) },
		"Block without counts": func(n *stat.Node, at int) api.Errno { return n.Block(at) },
		"Done":                 func(n *stat.Node, at int) api.Errno { return n.Done(at, 1, false) },
	}
	for name, call := range calls {
		n := stat.New()
		check(t, "Pass", n.Pass(0, 1, 1, 1, 1))
		for _, at := range []int{0, 77, 77, 5000000} {
			check(t, name, call(n, at))
			if got := n.Last(); got != at {
				t.Errorf("%s: Last = %d, want %d", name, got, at)
			}
		}
		for back, other := range calls {
			if err := other(n, 4999999); err != api.ErrBack {
				t.Errorf("%s behind %s: %v", back, name, err)
			}
		}
	}
}

// P4.1, P4.2: sums that would be above 2^62 stay at it, also within one call.
func TestSumsStay(t *testing.T) {
	n := stat.New()
	counts := slices.Repeat([]int{api.MaxCount}, most/api.MaxCount+1)
	check(t, "Block", n.Block(0, counts[:len(counts)-2]...))
	if c, _ := n.Sum(0); c.Block != most-api.MaxCount {
		t.Errorf("Block is %d, want %d", c.Block, most-api.MaxCount)
	}
	check(t, "Block", n.Block(0, 1, api.MaxCount))
	if c, _ := n.Sum(0); c.Block != most {
		t.Errorf("Block is %d", c.Block)
	}
	n = stat.New()
	check(t, "Block", n.Block(0, counts...))
	if c, _ := n.Sum(0); c.Block != most {
		t.Errorf("at once: Block is %d", c.Block)
	}
	for range 5 {
		check(t, "Pass", n.Pass(0, 1))
		check(t, "Done", n.Done(0, api.MaxTime, true))
	}
	if c, _ := n.Sum(0); c.RtSum != most || c.Done != 5 {
		t.Errorf("%+v", c)
	}
	got, err := n.Mean(0)
	want(t, "Mean", got, err, most/5, api.OK)
}

// P4.2: Past is of the whole second ahead alone, however the ten buckets stand.
func TestPast(t *testing.T) {
	n := stat.New()
	check(t, "Pass", n.Pass(0, 5))
	check(t, "Pass", n.Pass(999999, 6))
	check(t, "Pass", n.Pass(1000000, 7))
	check(t, "Block", n.Block(1000000, 90))
	check(t, "Pass", n.Pass(1999999, 8))
	for _, x := range [][2]int{{1999999, 11}, {2000000, 15}, {2950000, 15}, {2999999, 15}, {3000000, 0}, {api.MaxTime, 0}} {
		got, err := n.Past(x[0])
		want(t, "Past", got, err, x[1], api.OK)
	}
	check(t, "Pass", n.Pass(4500000, 9))
	for _, x := range [][2]int{{4500000, 0}, {4999999, 0}, {5000000, 9}, {6000000, 0}} {
		got, err := n.Past(x[0])
		want(t, "Past", got, err, x[1], api.OK)
	}
}

// P4.2: Most leaves the bucket of the time out; Least, Mean and Ratio round down, and are 0 of none.
func TestMostLeastMeanRatio(t *testing.T) {
	n := stat.New()
	check(t, "Pass", n.Pass(0, 4, 5))
	check(t, "Pass", n.Pass(100000, 8))
	check(t, "Pass", n.Pass(350000, 20))
	for _, rt := range []int{9, 4, 7} {
		check(t, "Done", n.Done(350000, rt, rt == 4))
	}
	tests := []struct{ at, most, least, mean, ratio int }{
		{350000, 9, 4, 6, 333},
		{399999, 9, 4, 6, 333},
		{400000, 20, 4, 6, 333},
		{1299999, 20, 4, 6, 333},
		{1300000, 0, 0, 0, 0},
	}
	for _, x := range tests {
		got := tell(t, n, x.at)
		if got.most != x.most || got.least != x.least || got.mean != x.mean || got.ratio != x.ratio {
			t.Errorf("at %d: %+v, want %+v", x.at, got, x)
		}
	}
}

// refused asks a node for what it will not tell: no number beside the error.
func refused(t *testing.T, n *stat.Node, at int, e api.Errno) {
	t.Helper()
	if c, err := n.Sum(at); c != (api.Counts{}) || err != e {
		t.Errorf("Sum(%d) = %+v, %v, want %v", at, c, err, e)
	}
	for what, ask := range map[string]func(int) (int, api.Errno){
		"Past": n.Past, "Most": n.Most, "Least": n.Least, "Mean": n.Mean, "Ratio": n.Ratio,
	} {
		got, err := ask(at)
		want(t, what, got, err, 0, e)
	}
}

// P4.2: what is asked of a time that may not be has ErrRange, then ErrBack, and nothing beside.
func TestAskingErrors(t *testing.T) {
	n, m := noted(t)
	for _, at := range []int{-1, math.MinInt, api.MaxTime + 1, math.MaxInt} {
		refused(t, n, at, api.ErrRange)
	}
	for _, at := range []int{0, 4999} {
		refused(t, n, at, api.ErrBack)
	}
	checkTells(t, n, m, 5000)
}

// P4.2: asking notes nothing.
func TestAskingNotesNothing(t *testing.T) {
	n, m := noted(t)
	for _, at := range []int{7000000, api.MaxTime, 5000} {
		checkTells(t, n, m, at)
	}
	check(t, "Pass", n.Pass(5000, 2))
	m.note(5000, 1, api.Counts{Pass: 2})
	checkTells(t, n, m, 1000000)
}

// P4.1, P4.2, P4.4, P4.6, P4.7: calls of all kinds against the document, those that are refused among them.
func TestAgainstModel(t *testing.T) {
	r := rand.New(rand.NewSource(4))
	for range 20 {
		n, m, at := stat.New(), &model{}, r.Intn(3*api.Second)
		for range 120 {
			at += []int{0, r.Intn(1000), r.Intn(300000), r.Intn(2 * api.Second)}[r.Intn(4)]
			counts := someCounts(r)
			switch r.Intn(4) {
			case 0, 1:
				check(t, "Pass", n.Pass(at, counts...))
				m.note(at, len(counts), api.Counts{Pass: sumOf(counts)})
			case 2:
				check(t, "Block", n.Block(at, counts...))
				m.note(at, 0, api.Counts{Block: sumOf(counts)})
			case 3:
				finish(t, r, n, m, at)
			}
			checkTells(t, n, m, m.last)
			checkTells(t, n, m, m.last+r.Intn(2*api.Second))
		}
	}
}

func someCounts(r *rand.Rand) []int {
	l := make([]int, r.Intn(4))
	for i := range l {
		l[i] = 1 + r.Intn(20)
	}
	return l
}

// finish lets an entry end, if there is one.
func finish(t *testing.T, r *rand.Rand, n *stat.Node, m *model, at int) {
	t.Helper()
	end := api.Counts{Done: 1, RtSum: r.Intn(1000)}
	end.MinRt, end.Errors = end.RtSum, r.Intn(2)
	err := n.Done(at, end.RtSum, end.Errors == 1)
	if m.flight == 0 {
		if err != api.ErrNone {
			t.Fatalf("Done of none = %v", err)
		}
		return
	}
	check(t, "Done", err)
	m.note(at, -1, end)
}

// P4.5: what passes in any nine tenths of a second is no more than Sum tells at its end.
func TestNineTenths(t *testing.T) {
	const nine = api.Second / 10 * 9
	r := rand.New(rand.NewSource(45))
	n, m := stat.New(), &model{}
	for at := r.Intn(1000); at < 10*api.Second; at += r.Intn(60000) {
		check(t, "Pass", n.Pass(at, 1))
		m.note(at, 1, api.Counts{Pass: 1})
		c, err := n.Sum(at)
		check(t, "Sum", err)
		if passed := m.between(at-nine, at+1).Pass; passed > c.Pass {
			t.Fatalf("from %d to %d %d passed, and Sum tells %d", at-nine, at, passed, c.Pass)
		}
	}
}

// P4.3: Join has the sums and the entries of all nodes together, as often as they stand there; nil ones play no part.
func TestJoin(t *testing.T) {
	a, b := stat.New(), stat.New()
	check(t, "Pass", a.Pass(0, 3, 3, 3))
	check(t, "Done", a.Done(150000, 20, true))
	check(t, "Pass", b.Pass(100000, 5))
	check(t, "Block", b.Block(900000, 9))
	both := api.Counts{Pass: 14, Block: 9, Done: 1, Errors: 1, RtSum: 20, MinRt: 20}
	tests := []struct {
		name   string
		at     int
		l      []*stat.Node
		want   api.Counts
		flight int
	}{
		{"none", 5, nil, api.Counts{}, 0},
		{"none, at no time", -1, nil, api.Counts{}, 0},
		{"nil ones, at no time", api.MaxTime + 1, []*stat.Node{nil, nil}, api.Counts{}, 0},
		{"one", 150000, []*stat.Node{a}, api.Counts{Pass: 9, Done: 1, Errors: 1, RtSum: 20, MinRt: 20}, 2},
		{"both", 900000, []*stat.Node{a, b}, both, 3},
		{"both among nil ones", 900000, []*stat.Node{nil, b, nil, a, nil}, both, 3},
		{"one twice", 900000, []*stat.Node{b, b}, api.Counts{Pass: 10, Block: 18}, 2},
		{"both, as the first left", 1000000, []*stat.Node{a, b}, api.Counts{Pass: 5, Block: 9, Done: 1, Errors: 1, RtSum: 20, MinRt: 20}, 3},
		{"both, as all left", api.MaxTime, []*stat.Node{a, b}, api.Counts{}, 3},
	}
	for _, x := range tests {
		if c, flight, err := stat.Join(x.at, x.l...); c != x.want || flight != x.flight || err != api.OK {
			t.Errorf("%s: %+v, %d, %v, want %+v, %d", x.name, c, flight, err, x.want, x.flight)
		}
	}
	if a.Last() != 150000 || b.Last() != 900000 {
		t.Errorf("Join noted: %d, %d", a.Last(), b.Last())
	}
}

// P4.3, P2: the first error that Sum of one has, and nothing beside.
func TestJoinErrors(t *testing.T) {
	early, late := stat.New(), stat.New()
	check(t, "Pass", early.Pass(100, 1))
	check(t, "Pass", late.Pass(900, 1))
	tests := []struct {
		at  int
		l   []*stat.Node
		err api.Errno
	}{
		{-1, []*stat.Node{early}, api.ErrRange},
		{api.MaxTime + 1, []*stat.Node{nil, early, late}, api.ErrRange},
		{899, []*stat.Node{early, late}, api.ErrBack},
		{899, []*stat.Node{late, nil, early}, api.ErrBack},
		{99, []*stat.Node{early}, api.ErrBack},
	}
	for _, x := range tests {
		if c, flight, err := stat.Join(x.at, x.l...); c != (api.Counts{}) || flight != 0 || err != x.err {
			t.Errorf("Join(%d): %+v, %d, %v, want %v", x.at, c, flight, err, x.err)
		}
	}
}

// P3: what is handed in stays, spare room behind a list's end too.
func TestListsStay(t *testing.T) {
	counts := []int{1, 2, 3, 4}
	n := stat.New()
	check(t, "Pass", n.Pass(0, counts[:3]...))
	check(t, "Block", n.Block(0, counts[:2]...))
	if !slices.Equal(counts, []int{1, 2, 3, 4}) {
		t.Errorf("the counts became %v", counts)
	}
	counts[0] = 99
	if c, _ := n.Sum(0); c != (api.Counts{Pass: 6, Block: 3}) {
		t.Errorf("with the list the node became %+v", c)
	}
	nodes := []*stat.Node{n, nil, n, n}
	was := slices.Clone(nodes)
	stat.Join(0, nodes[:3]...)
	if !slices.Equal(nodes, was) {
		t.Error("the nodes' list changed")
	}
}

// P4, P4.2: of a node and its Fork the one has nothing of what happens at the other one.
func TestFork(t *testing.T) {
	a, one := noted(t)
	b, other := a.Fork(), &model{all: slices.Clone(one.all), flight: one.flight, last: one.last}
	checkTells(t, b, other, 5000)
	check(t, "Pass", a.Pass(5000, 40))
	one.note(5000, 1, api.Counts{Pass: 40})
	checkTells(t, b, other, 5000)
	check(t, "Done", b.Done(6000, 1, true))
	other.note(6000, -1, api.Counts{Done: 1, Errors: 1, RtSum: 1, MinRt: 1})
	check(t, "Pass", b.Pass(2000000, 7))
	other.note(2000000, 1, api.Counts{Pass: 7})
	for _, at := range []int{5000, 1004000, 1999999} {
		checkTells(t, a, one, at)
	}
	checkTells(t, b, other, 2000000)
	checkTells(t, b, other, 3000000)
}

// P1, P2: a nil node answers zero values, or ErrNil, which is named first.
func TestNilNode(t *testing.T) {
	var n *stat.Node
	for _, at := range []int{-1, 0, 5, api.MaxTime + 1} {
		for _, counts := range [][]int{nil, {1}, {0}} {
			if err := n.Pass(at, counts...); err != api.ErrNil {
				t.Errorf("Pass(%d, %v) = %v", at, counts, err)
			}
			if err := n.Block(at, counts...); err != api.ErrNil {
				t.Errorf("Block(%d, %v) = %v", at, counts, err)
			}
		}
		for _, rt := range []int{-1, 0, 5} {
			if err := n.Done(at, rt, true); err != api.ErrNil {
				t.Errorf("Done(%d, %d) = %v", at, rt, err)
			}
		}
		refused(t, n, at, api.ErrNil)
	}
	if n.Flight() != 0 || n.Last() != 0 || n.Fork() != nil {
		t.Errorf("Flight %d, Last %d, Fork %v", n.Flight(), n.Last(), n.Fork())
	}
}
