package hot_test

import (
	"math"
	"slices"
	"strings"
	"testing"

	"spillway/api"
	"spillway/hot"
)

// checkRefused holds Look and Take against an error; and Used, where the count plays no part.
func checkRefused(t *testing.T, h *hot.Hot, at int, value string, count int, want api.Errno) {
	t.Helper()
	if got := of(h.Look(at, value, count)); got != of(false, want) {
		t.Errorf("Look(%d, %q, %d) = %v, want %v", at, value, count, got, want)
	}
	if got := of(h.Take(at, value, count)); got != of(false, want) {
		t.Errorf("Take(%d, %q, %d) = %v, want %v", at, value, count, got, want)
	}
	if count != 1 {
		return
	}
	if n, err := h.Used(at, value); n != 0 || err != want {
		t.Errorf("Used(%d, %q) = %d, %v, want %v", at, value, n, err, want)
	}
}

// P15.2, P2: the errors in their order: ErrRange, ErrLong, ErrBack; nothing changes.
func TestRefused(t *testing.T) {
	h := hotOf(t, three, 2, 1)
	take(t, h, 1999990, "v", 1)
	take(t, h, 2000000, "w", 2)
	was := stateOf(h, 2000000, "v", "w", "x")
	long := strings.Repeat("x", api.MaxName+1)
	tests := []struct {
		at    int
		value string
		count int
		err   api.Errno
	}{
		{-1, "v", 1, api.ErrRange}, {math.MinInt, "v", 1, api.ErrRange}, {api.MaxTime + 1, "v", 1, api.ErrRange}, {math.MaxInt, "x", 1, api.ErrRange},
		{2000000, "v", 0, api.ErrRange}, {2000000, "v", -1, api.ErrRange}, {2000000, "v", math.MinInt, api.ErrRange},
		{2000000, "v", api.MaxCount + 1, api.ErrRange}, {2000000, "x", math.MaxInt, api.ErrRange}, {-1, "v", 0, api.ErrRange},
		{-1, long, 1, api.ErrRange}, {2000000, long, 0, api.ErrRange}, {1999999, "v", 0, api.ErrRange}, {0, long, -1, api.ErrRange},
		{2000000, long, 1, api.ErrLong}, {1999999, long, 1, api.ErrLong}, {0, long, 1, api.ErrLong}, {api.MaxTime, strings.Repeat("x", 100000), 1, api.ErrLong},
		{2000000, long, api.MaxCount, api.ErrLong},
		{1999999, "v", 1, api.ErrBack}, {1999999, "x", 1, api.ErrBack}, {0, "", 1, api.ErrBack}, {0, long[1:], 1, api.ErrBack}, {1999999, "v", api.MaxCount, api.ErrBack},
	}
	for _, x := range tests {
		checkRefused(t, h, x.at, x.value, x.count, x.err)
		if got := stateOf(h, 2000000, "v", "w", "x"); got != was {
			t.Fatalf("refused at %+v, it changes from %s to %s", x, was, got)
		}
	}
	if !take(t, h, 2000000, long[1:], 3) {
		t.Error("a value of as many bytes as may be does not pass")
	}
}

// P1: a nil one answers ErrNil ahead of all other errors, and else zero values.
func TestNil(t *testing.T) {
	var h *hot.Hot
	for _, n := range []int{1, 0, -1, math.MaxInt, math.MinInt} {
		for _, value := range []string{"", "v", strings.Repeat("x", 1000)} {
			checkRefused(t, h, n, value, n, api.ErrNil)
			if h.Limit(value) != 0 {
				t.Errorf("a nil one has a Limit of %q", value)
			}
		}
	}
	if len(h.Kept()) != 0 || h.Fork() != nil {
		t.Error("a nil one has something")
	}
}

// P3: the items that were handed in stay as they are, spare room too, and what becomes of them is of no account.
func TestHandedIn(t *testing.T) {
	room := items("vip", 100, "none", 0, "spare", 7)
	r := api.Hot{Resource: "a", Count: 3, Seconds: 1, Items: room[:2]}
	h := hotOf(t, r, 2, 1)
	take(t, h, 5, "vip", 50)
	if !slices.Equal(room, items("vip", 100, "none", 0, "spare", 7)) {
		t.Errorf("the items became %v", room)
	}
	room[0], room[1] = api.Item{Value: "none", Count: 9}, api.Item{Value: "x", Count: 9}
	for value, want := range map[string]int{"vip": 100, "none": 0, "x": 3, "spare": 3} {
		if got := h.Limit(value); got != want {
			t.Errorf("Limit(%q) = %d, want %d", value, got, want)
		}
	}
}

// P3: what Kept answers is the caller's.
func TestKeptIsTheCallers(t *testing.T) {
	h := hotOf(t, three, 2, 1)
	take(t, h, 5, "v", 1)
	take(t, h, 5, "w", 1)
	l, again := h.Kept(), h.Kept()
	l[0], l[1] = "x", "y"
	if !slices.Equal(again, []string{"v", "w"}) {
		t.Errorf("another answer became %q", again)
	}
	keeps(t, "when an answer was changed", h, "v", "w")
}

// P4: of one and its Fork, what becomes of the one changes nothing of the other: neither windows, nor sketch, nor what is kept, nor the time.
func TestFork(t *testing.T) {
	h := hotOf(t, three, 2, 1)
	values := []string{"u", "v", "w", "x"}
	for _, value := range values[:3] {
		take(t, h, 1000000, value, 1)
	}
	was := stateOf(h, 1000000, values...)
	fork := h.Fork()
	if got := stateOf(fork, 1000000, values...); got != was {
		t.Fatalf("Fork: %s, want %s", got, was)
	}
	take(t, fork, 1000000, "w", 1)
	take(t, fork, 1000000, "v", 1)
	take(t, fork, 1000000, "x", 1)
	take(t, fork, 1050000, "u", 1)
	if got := stateOf(h, 1000000, values...); got != was {
		t.Errorf("its fork took: %s, was %s", got, was)
	}
	is := stateOf(fork, 1050000, values...)
	for _, value := range values {
		take(t, h, 1050000, value, 2)
	}
	take(t, h, 3000000, "y", 1)
	if got := stateOf(fork, 1050000, values...); got != is {
		t.Errorf("it took: its fork %s, was %s", got, is)
	}
}
