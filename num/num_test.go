package num_test

import (
	"math"
	"math/big"
	"math/rand"
	"slices"
	"testing"

	"spillway/api"
	"spillway/num"
)

const (
	least    = math.MinInt64
	greatest = math.MaxInt64
)

// edges are numbers near which int64, or a word of it, comes to its end.
func edges() []int {
	l := []int{0, least, least + 1, greatest, greatest - 1}
	for _, n := range []int{1, 2, 3, 7, 10, 999, 1000, 1<<31 - 1, 1 << 31, 1 << 32, 1<<32 + 1, 3037000499, 3037000500, 1<<62 - 1, 1 << 62, 1<<62 + 1} {
		l = append(l, n, -n)
	}
	return l
}

// chosen are numbers of all sizes, the same ones each time.
func chosen(n int) []int {
	r := rand.New(rand.NewSource(1))
	l := make([]int, n)
	for i := range l {
		l[i] = int(r.Uint64()) >> r.Intn(64)
	}
	return l
}

func large(n int) *big.Int { return big.NewInt(int64(n)) }

// rounded is a by b, rounded as asked.
func rounded(a, b *big.Int, up bool) *big.Int {
	if b.Sign() < 0 {
		a, b = new(big.Int).Neg(a), new(big.Int).Neg(b)
	}
	// With b above 0, Div rounds down.
	if up {
		down := new(big.Int).Div(new(big.Int).Neg(a), b)
		return down.Neg(down)
	}
	return new(big.Int).Div(a, b)
}

func held(n *big.Int) (int, api.Errno) {
	if !n.IsInt64() {
		return 0, api.ErrOver
	}
	return int(n.Int64()), api.OK
}

func kept(n *big.Int) int {
	switch {
	case n.Cmp(large(least)) < 0:
		return least
	case n.Cmp(large(greatest)) > 0:
		return greatest
	default:
		return int(n.Int64())
	}
}

type answer struct {
	n   int
	err api.Errno
}

func of(n int, err api.Errno) answer { return answer{n, err} }

func checkPair(t *testing.T, a, b int) {
	t.Helper()
	x, y := large(a), large(b)
	if got, want := of(num.Add(a, b)), of(held(new(big.Int).Add(x, y))); got != want {
		t.Errorf("Add(%d, %d) = %v, want %v", a, b, got, want)
	}
	if got, want := of(num.Sub(a, b)), of(held(new(big.Int).Sub(x, y))); got != want {
		t.Errorf("Sub(%d, %d) = %v, want %v", a, b, got, want)
	}
	if got, want := of(num.Mul(a, b)), of(held(new(big.Int).Mul(x, y))); got != want {
		t.Errorf("Mul(%d, %d) = %v, want %v", a, b, got, want)
	}
	if got, want := num.Times(a, b), kept(new(big.Int).Mul(x, y)); got != want {
		t.Errorf("Times(%d, %d) = %d, want %d", a, b, got, want)
	}
	if got, want := num.Plus(a, b), kept(new(big.Int).Add(x, y)); got != want {
		t.Errorf("Plus(%d, %d) = %d, want %d", a, b, got, want)
	}
	for _, up := range []bool{false, true} {
		want := answer{0, api.ErrZero}
		if b != 0 {
			want = of(held(rounded(x, y, up)))
		}
		if got := of(num.Div(a, b, up)); got != want {
			t.Errorf("Div(%d, %d, %v) = %v, want %v", a, b, up, got, want)
		}
	}
}

func checkMulDiv(t *testing.T, a, b, c int) {
	t.Helper()
	for _, up := range []bool{false, true} {
		want := answer{0, api.ErrZero}
		if c != 0 {
			want = of(held(rounded(new(big.Int).Mul(large(a), large(b)), large(c), up)))
		}
		if got := of(num.MulDiv(a, b, c, up)); got != want {
			t.Errorf("MulDiv(%d, %d, %d, %v) = %v, want %v", a, b, c, up, got, want)
		}
	}
}

// P1.1, P1.3, P5: each pair of edges, and many others, against numbers without an end.
func TestPairs(t *testing.T) {
	for _, a := range edges() {
		for _, b := range edges() {
			checkPair(t, a, b)
		}
	}
	l := chosen(20000)
	for i := 1; i < len(l); i++ {
		checkPair(t, l[i-1], l[i])
	}
}

// P1.1: by numbers that are written out.
func TestAddSubMul(t *testing.T) {
	tests := []struct {
		name      string
		got, want answer
	}{
		{"Add", of(num.Add(7, -10)), answer{-3, api.OK}},
		{"Add to the greatest", of(num.Add(greatest-1, 1)), answer{greatest, api.OK}},
		{"Add above it", of(num.Add(greatest, 1)), answer{0, api.ErrOver}},
		{"Add to the least", of(num.Add(least+1, -1)), answer{least, api.OK}},
		{"Add below it", of(num.Add(least, -1)), answer{0, api.ErrOver}},
		{"Add both least", of(num.Add(least, least)), answer{0, api.ErrOver}},
		{"Sub", of(num.Sub(7, 10)), answer{-3, api.OK}},
		{"Sub the least", of(num.Sub(-1, least)), answer{greatest, api.OK}},
		{"Sub the least of 0", of(num.Sub(0, least)), answer{0, api.ErrOver}},
		{"Sub below the least", of(num.Sub(least, 1)), answer{0, api.ErrOver}},
		{"Mul", of(num.Mul(-7, 10)), answer{-70, api.OK}},
		{"Mul to the least", of(num.Mul(1<<62, -2)), answer{least, api.OK}},
		{"Mul above the greatest", of(num.Mul(1<<62, 2)), answer{0, api.ErrOver}},
		{"Mul round to 0", of(num.Mul(1<<32, 1<<32)), answer{0, api.ErrOver}},
		{"Mul the least by -1", of(num.Mul(least, -1)), answer{0, api.ErrOver}},
		{"Mul the least by 1", of(num.Mul(least, 1)), answer{least, api.OK}},
	}
	for _, x := range tests {
		if x.got != x.want {
			t.Errorf("%s: %v, want %v", x.name, x.got, x.want)
		}
	}
}

// P1.1: which way Div rounds, and its errors.
func TestDiv(t *testing.T) {
	tests := []struct {
		a, b int
		up   bool
		want answer
	}{
		{7, 2, false, answer{3, api.OK}},
		{7, 2, true, answer{4, api.OK}},
		{-7, 2, false, answer{-4, api.OK}},
		{-7, 2, true, answer{-3, api.OK}},
		{7, -2, false, answer{-4, api.OK}},
		{7, -2, true, answer{-3, api.OK}},
		{-7, -2, false, answer{3, api.OK}},
		{-7, -2, true, answer{4, api.OK}},
		{-1, 2, true, answer{0, api.OK}},
		{-1, 2, false, answer{-1, api.OK}},
		{8, 2, true, answer{4, api.OK}},
		{-8, 2, false, answer{-4, api.OK}},
		{0, -5, false, answer{0, api.OK}},
		{1, 0, false, answer{0, api.ErrZero}},
		{0, 0, true, answer{0, api.ErrZero}},
		{least, 0, true, answer{0, api.ErrZero}},
		{least, -1, false, answer{0, api.ErrOver}},
		{least, 1, false, answer{least, api.OK}},
		{greatest, least, false, answer{-1, api.OK}},
		{greatest, least, true, answer{0, api.OK}},
	}
	for _, x := range tests {
		if got := of(num.Div(x.a, x.b, x.up)); got != x.want {
			t.Errorf("Div(%d, %d, %v) = %v, want %v", x.a, x.b, x.up, got, x.want)
		}
	}
}

// P1.2: MulDiv by numbers that are written out: the product is exact ahead of rounding, and what is rounded must be held.
func TestMulDiv(t *testing.T) {
	tests := []struct {
		a, b, c int
		up      bool
		want    answer
	}{
		{7, 10, 3, false, answer{23, api.OK}},
		{7, 10, 3, true, answer{24, api.OK}},
		{-7, 10, 3, false, answer{-24, api.OK}},
		{-7, 10, 3, true, answer{-23, api.OK}},
		{1 << 62, 4, 8, false, answer{1 << 61, api.OK}},
		{1 << 62, 4, 2, false, answer{0, api.ErrOver}},
		{1 << 62, 4, -2, false, answer{least, api.OK}},
		{1 << 62, 4, 0, false, answer{0, api.ErrZero}},
		{0, 0, 0, true, answer{0, api.ErrZero}},
		{least, least, least, false, answer{least, api.OK}},
		{least, least, greatest, false, answer{0, api.ErrOver}},
		{greatest, greatest, greatest, true, answer{greatest, api.OK}},
		{least, greatest, least, true, answer{greatest, api.OK}},
		{least, greatest, greatest, true, answer{least, api.OK}},
		{greatest, 1 << 62, 1<<62 - 1, false, answer{0, api.ErrOver}},
		{1<<62 - 1, 4, 2, true, answer{greatest - 1, api.OK}},
		// An end and a half more: it is held, where it is rounded to the end.
		{6148914691236517205, 3, 2, false, answer{9223372036854775807, api.OK}},
		{6148914691236517205, 3, 2, true, answer{0, api.ErrOver}},
		{-6148914691236517205, 3, 2, true, answer{-9223372036854775807, api.OK}},
		{-6148914691236517205, 3, 2, false, answer{least, api.OK}},
	}
	for _, x := range tests {
		if got := of(num.MulDiv(x.a, x.b, x.c, x.up)); got != x.want {
			t.Errorf("MulDiv(%d, %d, %d, %v) = %v, want %v", x.a, x.b, x.c, x.up, got, x.want)
		}
	}
}

// P1.2, P5: MulDiv against numbers without an end.
func TestMulDivExact(t *testing.T) {
	l := edges()
	for _, a := range l {
		for _, b := range l {
			for _, c := range l {
				checkMulDiv(t, a, b, c)
			}
		}
	}
	m := chosen(30000)
	for i := 2; i < len(m); i++ {
		checkMulDiv(t, m[i-2], m[i-1], m[i])
	}
}

// P1.2: Share.
func TestShare(t *testing.T) {
	tests := []struct {
		a, b int
		want answer
	}{
		{1, 3, answer{333, api.OK}},
		{2, 3, answer{666, api.OK}},
		{0, 3, answer{0, api.OK}},
		{3, 3, answer{1000, api.OK}},
		{0, 0, answer{0, api.OK}},
		{999, 1000000, answer{0, api.OK}},
		{greatest, greatest, answer{1000, api.OK}},
		{greatest - 1, greatest, answer{999, api.OK}},
		{1 << 62, greatest, answer{500, api.OK}},
		{-1, 3, answer{0, api.ErrRange}},
		{4, 3, answer{0, api.ErrRange}},
		{1, 0, answer{0, api.ErrRange}},
		{-1, 0, answer{0, api.ErrRange}},
		{-2, -1, answer{0, api.ErrRange}},
		{0, -1, answer{0, api.ErrRange}},
		{least, greatest, answer{0, api.ErrRange}},
	}
	for _, x := range tests {
		if got := of(num.Share(x.a, x.b)); got != x.want {
			t.Errorf("Share(%d, %d) = %v, want %v", x.a, x.b, got, x.want)
		}
	}
}

// P1.2: Mean: the sum is exact, also where int64 cannot hold it.
func TestMean(t *testing.T) {
	tests := []struct {
		l    []int
		want answer
	}{
		{nil, answer{0, api.ErrNone}},
		{[]int{}, answer{0, api.ErrNone}},
		{[]int{7}, answer{7, api.OK}},
		{[]int{-1, -2}, answer{-2, api.OK}},
		{[]int{1, 2}, answer{1, api.OK}},
		{[]int{1, 1, 2}, answer{1, api.OK}},
		{[]int{-1, 0, 0}, answer{-1, api.OK}},
		{[]int{3, -3}, answer{0, api.OK}},
		{[]int{greatest, greatest, greatest}, answer{greatest, api.OK}},
		{[]int{least, least, least}, answer{least, api.OK}},
		{[]int{least, greatest}, answer{-1, api.OK}},
		{[]int{greatest, greatest, least, least}, answer{-1, api.OK}},
		{[]int{greatest, 1, 1}, answer{3074457345618258603, api.OK}},
	}
	for _, x := range tests {
		if got := of(num.Mean(x.l...)); got != x.want {
			t.Errorf("Mean(%v) = %v, want %v", x.l, got, x.want)
		}
	}
}

func lists() [][]int {
	m := append(chosen(5000), edges()...)
	var all [][]int
	for i, n := 0, 1; i+n <= len(m); i, n = i+n, n%17+1 {
		all = append(all, m[i:i+n])
	}
	return all
}

// P1.2, P1.6: Mean against numbers without an end, and from the least to the greatest.
func TestMeanExact(t *testing.T) {
	for _, l := range lists() {
		sum := new(big.Int)
		for _, n := range l {
			sum.Add(sum, large(n))
		}
		got := of(num.Mean(l...))
		if want := of(held(rounded(sum, large(len(l)), false))); got != want {
			t.Errorf("Mean(%v) = %v, want %v", l, got, want)
		}
		if got.n < slices.Min(l) || got.n > slices.Max(l) {
			t.Errorf("Mean(%v) = %v is outside of them", l, got)
		}
	}
}

// P1.3: Within, also where lo is above hi: what is named first holds.
func TestWithin(t *testing.T) {
	tests := []struct{ n, lo, hi, want int }{
		{3, 1, 5, 3},
		{1, 1, 5, 1},
		{5, 1, 5, 5},
		{0, 1, 5, 1},
		{6, 1, 5, 5},
		{least, 1, 5, 1},
		{greatest, 1, 5, 5},
		{greatest, least, greatest, greatest},
		{least, least, greatest, least},
		{3, 5, 1, 5},
		{5, 5, 1, 1},
		{6, 5, 1, 1},
	}
	for _, x := range tests {
		if got := num.Within(x.n, x.lo, x.hi); got != x.want {
			t.Errorf("Within(%d, %d, %d) = %d, want %d", x.n, x.lo, x.hi, got, x.want)
		}
	}
}

// P1.3: Plus is kept at each step, not at the end alone.
func TestPlus(t *testing.T) {
	tests := []struct {
		l    []int
		want int
	}{
		{nil, 0},
		{[]int{7}, 7},
		{[]int{least}, least},
		{[]int{1, -2, 4}, 3},
		{[]int{1 << 62, 1 << 62, -1}, greatest - 1},
		{[]int{greatest, greatest, least}, -1},
		{[]int{least, -1, greatest}, -1},
		{[]int{least, least, 1}, least + 1},
		{[]int{greatest, -1, 2, 0}, greatest},
		{[]int{-1, greatest, greatest}, greatest},
	}
	for _, x := range tests {
		if got := num.Plus(x.l...); got != x.want {
			t.Errorf("Plus(%v) = %d, want %d", x.l, got, x.want)
		}
	}
	for _, l := range lists() {
		want := 0
		for _, n := range l {
			want = kept(new(big.Int).Add(large(want), large(n)))
		}
		if got := num.Plus(l...); got != want {
			t.Errorf("Plus(%v) = %d, want %d", l, got, want)
		}
	}
}

// P1.3: Times.
func TestTimes(t *testing.T) {
	tests := []struct{ a, b, want int }{
		{7, -10, -70},
		{-1 << 62, 4, least},
		{1 << 62, 4, greatest},
		{-1 << 62, -4, greatest},
		{least, -1, greatest},
		{least, 1, least},
		{least, 0, 0},
		{least, least, greatest},
		{greatest, least, least},
		{1 << 32, 1 << 32, greatest},
	}
	for _, x := range tests {
		if got := num.Times(x.a, x.b); got != x.want {
			t.Errorf("Times(%d, %d) = %d, want %d", x.a, x.b, got, x.want)
		}
	}
}

// P1.4: MulDiv by 1 is Mul, of 1 is Div; up and down are 1 apart at most, and alike just where nothing is left.
func TestMulDivFollows(t *testing.T) {
	l := append(chosen(300), edges()...)
	for i, a := range l {
		for _, b := range edges() {
			for _, up := range []bool{false, true} {
				if got, want := of(num.MulDiv(a, b, 1, up)), of(num.Mul(a, b)); got != want {
					t.Errorf("MulDiv(%d, %d, 1, %v) = %v, Mul = %v", a, b, up, got, want)
				}
				if got, want := of(num.MulDiv(a, 1, b, up)), of(num.Div(a, b, up)); got != want {
					t.Errorf("MulDiv(%d, 1, %d, %v) = %v, Div = %v", a, b, up, got, want)
				}
			}
			checkRoundings(t, a, b, l[len(l)-1-i])
		}
	}
}

func checkRoundings(t *testing.T, a, b, c int) {
	t.Helper()
	down, up := of(num.MulDiv(a, b, c, false)), of(num.MulDiv(a, b, c, true))
	if down.err != api.OK || up.err != api.OK {
		return
	}
	apart := 1
	if new(big.Int).Rem(new(big.Int).Mul(large(a), large(b)), large(c)).Sign() == 0 {
		apart = 0
	}
	if up.n-down.n != apart {
		t.Errorf("MulDiv(%d, %d, %d): down %d, up %d, want %d apart", a, b, c, down.n, up.n, apart)
	}
}

// P1.5: where Add and Mul have no error, Plus and Times tell the same; else they stand at an end.
func TestKeptIsExact(t *testing.T) {
	same := func(name string, a, b, got int, exact answer) {
		if exact.err == api.OK && got != exact.n {
			t.Errorf("%s of %d, %d: kept %d, exact %d", name, a, b, got, exact.n)
		}
		if exact.err != api.OK && got != least && got != greatest {
			t.Errorf("%s of %d, %d: %d is no end", name, a, b, got)
		}
	}
	for _, a := range append(chosen(300), edges()...) {
		for _, b := range edges() {
			same("Plus", a, b, num.Plus(a, b), of(num.Add(a, b)))
			same("Times", a, b, num.Times(a, b), of(num.Mul(a, b)))
		}
	}
}

// P3: what is handed in stays, spare room behind a list's end too.
func TestListsStay(t *testing.T) {
	l := append(chosen(20), edges()...)
	was := slices.Clone(l)
	num.Plus(l[:10]...)
	num.Mean(l[:10]...)
	if !slices.Equal(l, was) {
		t.Errorf("the list became %v, was %v", l, was)
	}
}
