package guard_test

import (
	"math/big"
	"math/rand"
	"testing"

	"spillway/api"
	"spillway/guard"
)

// anyLimit is a field of a right rule.
func anyLimit(r *rand.Rand) int {
	return pick(r, -1, -1, 0, 1, r.Intn(10), r.Intn(3000), r.Intn(api.MaxCount), api.MaxCount)
}

func anyRule(r *rand.Rand) api.System {
	return api.System{Qps: anyLimit(r), Threads: anyLimit(r), Rt: anyLimit(r), Load: anyLimit(r), Cpu: anyLimit(r)}
}

// near is a number that may be so, often at a limit.
func near(r *rand.Rand, limit int) int {
	return max(pick(r, 0, limit-1, limit, limit, limit+1, limit/2, r.Intn(10), r.Intn(most)), 0)
}

// anyNow is such as is often just below, or above, what a rule asks.
func anyNow(r *rand.Rand, rule api.System) guard.Now {
	return guard.Now{
		Qps: near(r, rule.Qps), Threads: near(r, rule.Threads), Rt: near(r, rule.Rt), Load: near(r, rule.Load), Cpu: near(r, rule.Cpu),
		Most: pick(r, 0, 1, 100, r.Intn(1000), r.Intn(most)), Least: pick(r, 0, 1, 100000, r.Intn(1000000), r.Intn(most)),
	}
}

// blocking is what the document says: the first field that blocks, by sums that cannot go round.
func blocking(r api.System, n int, now guard.Now) string {
	above := func(limit int, l ...int) bool {
		sum := new(big.Int)
		for _, x := range l {
			sum.Add(sum, big.NewInt(int64(x)))
		}
		return limit != -1 && sum.Cmp(big.NewInt(int64(limit))) > 0
	}
	blocks := map[string]bool{
		"qps":     above(r.Qps, now.Qps, n),
		"threads": above(r.Threads, now.Threads, 1),
		"rt":      above(r.Rt, now.Rt),
		"load":    above(r.Load, now.Load) && tooMany(now.Threads, now.Most, now.Least),
		"cpu":     above(r.Cpu, now.Cpu),
	}
	for _, field := range []string{"qps", "threads", "rt", "load", "cpu"} {
		if blocks[field] {
			return field
		}
	}
	return ""
}

// P16.1: any rules and nows, held against the document; each field comes to block.
func TestModel(t *testing.T) {
	r := rand.New(rand.NewSource(161))
	seen := map[string]int{}
	for range 20000 {
		l := make([]api.System, r.Intn(4))
		for i := range l {
			l[i] = anyRule(r)
		}
		last := anyRule(r)
		now, n := anyNow(r, last), pick(r, 1, 1, 2, 1+r.Intn(api.MaxCount))
		l = append(l, last)
		first := len(l)
		for i, rule := range l {
			want := blocking(rule, n, now)
			isField(t, "any", rule, n, now, want)
			seen[want]++
			if want != "" {
				first = min(first, i)
			}
		}
		if i, passes, err := guard.Systems(l, n, now); i != first || passes != (first == len(l)) || err != api.OK {
			t.Fatalf("Systems(%+v, %d, %+v) = %d, %v, %v, want %d", l, n, now, i, passes, err, first)
		}
	}
	for _, field := range []string{"", "qps", "threads", "rt", "load", "cpu"} {
		if seen[field] < 300 {
			t.Errorf("%q only %d times", field, seen[field])
		}
	}
}

// P16.4: a rule of -1 alone lets all pass that may be.
func TestNothingAsked(t *testing.T) {
	r := rand.New(rand.NewSource(164))
	for range 2000 {
		isField(t, "nothing asked", none, 1+r.Intn(api.MaxCount), anyNow(r, anyRule(r)), "")
	}
}

// P16.4: what a rule lets pass it lets pass with less of each.
func TestLessPasses(t *testing.T) {
	r := rand.New(rand.NewSource(1641))
	passed := 0
	for range 50000 {
		rule := anyRule(r)
		now, n := anyNow(r, rule), pick(r, 1, 2, 1+r.Intn(100))
		if !guard.System(rule, n, now) {
			continue
		}
		passed++
		less := now
		for _, field := range []*int{&less.Qps, &less.Threads, &less.Rt, &less.Load, &less.Cpu} {
			*field = pick(r, *field, *field, max(*field-1, 0), r.Intn(*field+1), 0)
		}
		fewer := 1 + r.Intn(n)
		isField(t, "with less", rule, fewer, less, "")
	}
	if passed < 5000 {
		t.Errorf("only %d passed", passed)
	}
}
