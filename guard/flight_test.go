package guard_test

import (
	"math"
	"math/big"
	"math/rand"
	"testing"

	"spillway/guard"
)

// tooMany is what the document says, by numbers that cannot go round.
func tooMany(threads, greatest, least int) bool {
	wide := func(n int) *big.Int { return big.NewInt(int64(max(n, 0))) }
	in := new(big.Int).Mul(wide(threads), wide(1000000))
	may := new(big.Int).Mul(wide(greatest), wide(10))
	may.Mul(may, wide(least))
	return threads > 1 && in.Cmp(may) > 0
}

// P16.2: TooMany is exact, and counts what is below 0 as 0.
func TestTooMany(t *testing.T) {
	tests := []struct {
		threads, most, least int
		want                 bool
	}{
		{0, 0, 0, false}, {1, 0, 0, false}, {2, 0, 0, true}, {2, 0, 100000, true}, {2, 100, 0, true},
		{2, 2, 100000, false}, {3, 2, 100000, true}, {5, 2, 100000, true},
		{2, 1, 199999, true}, {2, 1, 200000, false}, {2, 1, 200001, false}, {2, 199999, 1, true}, {2, 200000, 1, false},
		{7, 3, 233333, true}, {7, 3, 233334, false}, {1, 1, 1, false}, {2, 1, 99999, true},
		{-1, -1, -1, false}, {math.MinInt, 0, 0, false}, {2, -5, -5, true}, {2, -500000, -500000, true}, {2, math.MinInt, math.MinInt, true}, {2, math.MinInt, math.MaxInt, true},
		{-5, 0, 0, false}, {1, -5, 5, false},
		{math.MaxInt, math.MaxInt, math.MaxInt, false}, {math.MaxInt, math.MaxInt, 1, true}, {math.MaxInt, math.MaxInt, 99999, true}, {math.MaxInt, math.MaxInt, 100000, false},
		{math.MaxInt - 1, math.MaxInt - 1, 100000, false}, {math.MaxInt, math.MaxInt - 1, 100000, true}, {math.MaxInt, 0, math.MaxInt, true},
		{most, most, 100000, false}, {most + 1, most, 100000, true}, {2, math.MaxInt, math.MaxInt, false},
	}
	for _, x := range tests {
		if got := guard.TooMany(x.threads, x.most, x.least); got != x.want || got != tooMany(x.threads, x.most, x.least) {
			t.Errorf("TooMany(%d, %d, %d) = %v, want %v", x.threads, x.most, x.least, got, x.want)
		}
	}
}

// P16.2: Capacity is from 1 to 2^62, and counts what is below 0 as 0.
func TestCapacity(t *testing.T) {
	tests := []struct{ most, least, want int }{
		{0, 0, 1}, {0, math.MaxInt, 1}, {1, 1, 1}, {1, 100000, 1}, {1, 199999, 1}, {1, 200000, 2}, {2, 100000, 2}, {3, 233333, 6}, {3, 233334, 7},
		{-1, -1, 1}, {-500000, -500000, 1}, {math.MinInt, math.MinInt, 1}, {math.MinInt, math.MaxInt, 1}, {5, -1, 1},
		{most, 100000, most}, {most - 1, 100000, most - 1}, {most, 99999, 4611639901567203630}, {most + 1, 100000, most}, {math.MaxInt, 100000, most}, {math.MaxInt, math.MaxInt, most}, {most, 200000, most},
	}
	for _, x := range tests {
		if got := guard.Capacity(x.most, x.least); got != x.want {
			t.Errorf("Capacity(%d, %d) = %d, want %d", x.most, x.least, got, x.want)
		}
	}
}

func pick(r *rand.Rand, l ...int) int { return l[r.Intn(len(l))] }

// anyNumber is small as often as great.
func anyNumber(r *rand.Rand) int {
	return pick(r, 0, 1, 2, 100000, r.Intn(10), r.Intn(1000000), r.Intn(1<<40), most, math.MaxInt, r.Intn(math.MaxInt), -1, math.MinInt, -r.Intn(math.MaxInt))
}

// P16.2, P16.5: any numbers, held against the document; as many as Capacity says are not too many, and one more are.
func TestCapacityIsTheMost(t *testing.T) {
	r := rand.New(rand.NewSource(165))
	below := 0
	for range 20000 {
		greatest, least := anyNumber(r), anyNumber(r)
		n := guard.Capacity(greatest, least)
		if n < 1 || n > most || guard.TooMany(n, greatest, least) {
			t.Fatalf("Capacity(%d, %d) = %d, and so many are too many", greatest, least, n)
		}
		if n < most {
			below++
			if !guard.TooMany(n+1, greatest, least) {
				t.Fatalf("Capacity(%d, %d) = %d, and one more are not too many", greatest, least, n)
			}
		}
		for _, threads := range []int{n - 1, n, n + 1, anyNumber(r)} {
			if got := guard.TooMany(threads, greatest, least); got != tooMany(threads, greatest, least) {
				t.Fatalf("TooMany(%d, %d, %d) = %v", threads, greatest, least, got)
			}
		}
	}
	if below < 5000 || below > 19000 {
		t.Errorf("%d capacities below the greatest", below)
	}
}
