package world_test

import (
	"math"
	"slices"
	"testing"

	"spillway/api"
	"spillway/world"
)

var seeds = []uint64{0, 1, 42, 1234567, 1 << 63, math.MaxUint64, math.MaxUint64 - 0x9e3779b97f4a7c15}

func numbers(c *world.Chance, n int) []uint64 {
	l := make([]uint64, n)
	for i := range l {
		l[i] = c.Next()
	}
	return l
}

// P2.2: Next by known numbers of SplitMix64.
func TestNext(t *testing.T) {
	tests := []struct {
		seed uint64
		want []uint64
	}{
		{0, []uint64{0xe220a8397b1dcdaf, 0x6e789e6aa1b965f4, 0x06c45d188009454f, 0xf88bb8a8724c81ec, 0x1b39896a51a8749b}},
		{1234567, []uint64{6457827717110365317, 3203168211198807973, 9817491932198370423, 4593380528125082431, 16408922859458223821}},
	}
	for _, x := range tests {
		if got := numbers(world.NewChance(x.seed), len(x.want)); !slices.Equal(got, x.want) {
			t.Errorf("seed %d: %x, want %x", x.seed, got, x.want)
		}
	}
}

// P2.2: Mix is what Next makes of a state; the state goes on without a carry.
func TestMix(t *testing.T) {
	tests := []struct{ state, want uint64 }{
		{0, 0},
		{0x9e3779b97f4a7c15, 0xe220a8397b1dcdaf},
		{1, 0x5692161d100b05e5},
	}
	for _, x := range tests {
		if got := world.Mix(x.state); got != x.want {
			t.Errorf("Mix(%x) = %x, want %x", x.state, got, x.want)
		}
	}
	for _, seed := range seeds {
		c, state := world.NewChance(seed), seed
		for range 100 {
			state += 0x9e3779b97f4a7c15
			if got, want := c.Next(), world.Mix(state); got != want {
				t.Fatalf("seed %d: Next = %x, Mix = %x", seed, got, want)
			}
		}
	}
}

// P2.2, P2.4: Below is the next number, modulo n, and below n.
func TestBelow(t *testing.T) {
	for _, n := range []int{1, 2, 3, 6, 10, 1000, 1 << 31, 1 << 62, math.MaxInt - 1, math.MaxInt} {
		for _, seed := range seeds {
			c, next := world.NewChance(seed), world.NewChance(seed)
			for range 50 {
				want := int(next.Next() % uint64(n))
				if got, err := c.Below(n); got != want || err != api.OK || got < 0 || got >= n {
					t.Fatalf("seed %d: Below(%d) = %d, %v, want %d", seed, n, got, err, want)
				}
			}
		}
	}
}

// P2.2, P2: Below of less than 1 has an error, and no number goes by.
func TestBelowRange(t *testing.T) {
	c := world.NewChance(0)
	for _, n := range []int{0, -1, math.MinInt} {
		if got, err := c.Below(n); got != 0 || err != api.ErrRange {
			t.Errorf("Below(%d) = %d, %v", n, got, err)
		}
	}
	if got := c.Next(); got != 0xe220a8397b1dcdaf {
		t.Errorf("behind the errors Next = %x", got)
	}
}

// shuffled is how the document shuffles.
func shuffled(c *world.Chance, n int) []int {
	var l []int
	for i := range n {
		l = append(l, i)
	}
	for i := n - 1; i >= 1; i-- {
		j := int(c.Next() % uint64(i+1))
		l[i], l[j] = l[j], l[i]
	}
	return l
}

// P2.2, P2.4: Shuffle has each number once, in the order that the document says, and takes no more of chance than that.
func TestShuffle(t *testing.T) {
	for _, n := range []int{0, 1, 2, 3, 5, 100, api.MaxOps} {
		for _, seed := range seeds {
			c, same := world.NewChance(seed), world.NewChance(seed)
			got, err := c.Shuffle(n)
			if want := shuffled(same, n); err != api.OK || !slices.Equal(got, want) {
				t.Fatalf("seed %d: Shuffle(%d) = %v, %v, want %v", seed, n, got, err, want)
			}
			if c.Next() != same.Next() {
				t.Errorf("seed %d: behind Shuffle(%d) chance stands elsewhere", seed, n)
			}
			checkEachOnce(t, got, n)
		}
	}
	// By hand: of the seed 0 the first numbers, modulo 5, 4, 3 and 2, are 0, 0, 1 and 0.
	if got, _ := world.NewChance(0).Shuffle(5); !slices.Equal(got, []int{2, 3, 1, 4, 0}) {
		t.Errorf("seed 0: Shuffle(5) = %v", got)
	}
}

func checkEachOnce(t *testing.T, l []int, n int) {
	t.Helper()
	rising := slices.Sorted(slices.Values(l))
	if len(rising) != n {
		t.Errorf("%d numbers, want %d", len(rising), n)
	}
	for i, x := range rising {
		if x != i {
			t.Fatalf("%d is not there once", i)
		}
	}
}

// P2.2, P2: Shuffle of what may not be has an error, and no number goes by.
func TestShuffleRange(t *testing.T) {
	c := world.NewChance(0)
	for _, n := range []int{-1, api.MaxOps + 1, math.MinInt, math.MaxInt} {
		if l, err := c.Shuffle(n); len(l) != 0 || err != api.ErrRange {
			t.Errorf("Shuffle(%d) = %v, %v", n, l, err)
		}
	}
	if got := c.Next(); got != 0xe220a8397b1dcdaf {
		t.Errorf("behind the errors Next = %x", got)
	}
}

// P3: what Shuffle answered is the caller's.
func TestShuffleAnswersNewLists(t *testing.T) {
	c := world.NewChance(7)
	a, _ := c.Shuffle(50)
	was := slices.Clone(a)
	b, _ := c.Shuffle(50)
	for i := range b {
		b[i] = -1
	}
	if !slices.Equal(a, was) {
		t.Errorf("a list that was answered became %v", a)
	}
}

// P2.4, P6: two chances of one seed tell the same, also by turns; of another seed others.
func TestChancesAreAlike(t *testing.T) {
	for _, seed := range seeds {
		a, b, other := world.NewChance(seed), world.NewChance(seed), world.NewChance(seed+1)
		for range 100 {
			x := a.Next()
			if x == other.Next() {
				t.Errorf("seed %d: the next seed tells the same", seed)
			}
			if y := b.Next(); x != y {
				t.Fatalf("seed %d: %x and %x", seed, x, y)
			}
		}
	}
}

// P4: of a chance and its Fork the one tells what it would without the other one.
func TestChanceFork(t *testing.T) {
	want := numbers(world.NewChance(42), 20)
	a := world.NewChance(42)
	numbers(a, 5)
	b := a.Fork()
	if got := numbers(a, 15); !slices.Equal(got, want[5:]) {
		t.Errorf("the one: %x, want %x", got, want[5:])
	}
	if got := numbers(b, 15); !slices.Equal(got, want[5:]) {
		t.Errorf("its Fork: %x, want %x", got, want[5:])
	}
	c := a.Fork()
	numbers(c, 3)
	if got, want := a.Next(), numbers(world.NewChance(42), 21)[20]; got != want {
		t.Errorf("behind its Fork's numbers the one tells %x, want %x", got, want)
	}
}

// P1, P2: a nil chance answers zero values, or ErrNil, which is named first.
func TestNilChance(t *testing.T) {
	var c *world.Chance
	if got := c.Next(); got != 0 {
		t.Errorf("Next = %x", got)
	}
	for _, n := range []int{-1, 0, 1, 5} {
		if got, err := c.Below(n); got != 0 || err != api.ErrNil {
			t.Errorf("Below(%d) = %d, %v", n, got, err)
		}
		if l, err := c.Shuffle(n); len(l) != 0 || err != api.ErrNil {
			t.Errorf("Shuffle(%d) = %v, %v", n, l, err)
		}
	}
	if got := c.Fork(); got != nil {
		t.Errorf("Fork = %v", got)
	}
}
