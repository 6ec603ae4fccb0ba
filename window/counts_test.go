package window_test

import (
	"math"
	"math/big"
	"slices"
	"testing"

	"spillway/api"
	"spillway/window"
)

const most = 1 << 62

// full is counts whose fields are all different.
func full() api.Counts {
	return api.Counts{Pass: 3, Block: 5, Done: 7, Errors: 2, RtSum: 110, MinRt: 13}
}

// changed is full counts, but for a change.
func changed(change func(c *api.Counts)) api.Counts {
	c := full()
	change(&c)
	return c
}

// greatest is counts as great as they may be, but for the least time.
func greatest(least int) api.Counts {
	return api.Counts{Pass: most, Block: most, Done: most, Errors: most, RtSum: most, MinRt: least}
}

// rightCounts are counts that are just right.
func rightCounts() map[string]api.Counts {
	return map[string]api.Counts{
		"none":                      {},
		"all fields":                full(),
		"passes alone":              {Pass: 1},
		"blocks alone":              {Block: 1},
		"all fields as great":       greatest(most),
		"as many errors as ends":    changed(func(c *api.Counts) { c.Errors = c.Done }),
		"the least is all the time": changed(func(c *api.Counts) { c.MinRt = c.RtSum }),
		"ends without a time":       {Done: 3},
	}
}

// wrongCounts are counts that are just not right.
func wrongCounts() map[string]api.Counts {
	return map[string]api.Counts{
		"Pass below 0":           changed(func(c *api.Counts) { c.Pass = -1 }),
		"Block below 0":          changed(func(c *api.Counts) { c.Block = -1 }),
		"Done below 0":           {Done: -1, Errors: -1},
		"Errors below 0":         changed(func(c *api.Counts) { c.Errors = -1 }),
		"RtSum below 0":          changed(func(c *api.Counts) { c.RtSum, c.MinRt = -1, -1 }),
		"MinRt below 0":          changed(func(c *api.Counts) { c.MinRt = -1 }),
		"MinRt alone below 0":    {MinRt: -1},
		"the least Pass":         {Pass: math.MinInt},
		"Pass above all":         changed(func(c *api.Counts) { c.Pass = most + 1 }),
		"Block above all":        changed(func(c *api.Counts) { c.Block = most + 1 }),
		"Done above all":         changed(func(c *api.Counts) { c.Done = most + 1 }),
		"Errors above all":       changed(func(c *api.Counts) { c.Done, c.Errors = most+1, most+1 }),
		"RtSum above all":        changed(func(c *api.Counts) { c.RtSum = most + 1 }),
		"the greatest Pass":      {Pass: math.MaxInt},
		"more errors than ends":  changed(func(c *api.Counts) { c.Errors = c.Done + 1 }),
		"errors without ends":    {Errors: 1},
		"the least above all":    changed(func(c *api.Counts) { c.MinRt = c.RtSum + 1 }),
		"a time without ends":    {Pass: 1, RtSum: 1},
		"the least without ends": {MinRt: 1},
		"times without ends":     {RtSum: 5, MinRt: 5},
	}
}

// together is what the document says of counts together, by great numbers.
func together(l ...api.Counts) api.Counts {
	sum := func(of func(c api.Counts) int) int {
		all := new(big.Int)
		for _, c := range l {
			all.Add(all, big.NewInt(int64(of(c))))
		}
		if all.Cmp(big.NewInt(most)) > 0 {
			return most
		}
		return int(all.Int64())
	}
	var times []int
	for _, c := range l {
		if c.Done > 0 {
			times = append(times, c.MinRt)
		}
	}
	all := api.Counts{
		Pass:   sum(func(c api.Counts) int { return c.Pass }),
		Block:  sum(func(c api.Counts) int { return c.Block }),
		Done:   sum(func(c api.Counts) int { return c.Done }),
		Errors: sum(func(c api.Counts) int { return c.Errors }),
		RtSum:  sum(func(c api.Counts) int { return c.RtSum }),
	}
	if len(times) > 0 {
		all.MinRt = slices.Min(times)
	}
	return all
}

// P3.1: Join adds each field up, at most 2^62; MinRt is the least of those with ends.
func TestJoin(t *testing.T) {
	tests := []struct {
		name string
		l    []api.Counts
		want api.Counts
	}{
		{"none", nil, api.Counts{}},
		{"nothing", []api.Counts{{}, {}}, api.Counts{}},
		{"one", []api.Counts{full()}, full()},
		{"two", []api.Counts{full(), {Pass: 10, Block: 20, Done: 30, Errors: 1, RtSum: 50, MinRt: 14}}, api.Counts{Pass: 13, Block: 25, Done: 37, Errors: 3, RtSum: 160, MinRt: 13}},
		{"the least is the later one", []api.Counts{full(), {Done: 1, RtSum: 12, MinRt: 12}}, api.Counts{Pass: 3, Block: 5, Done: 8, Errors: 2, RtSum: 122, MinRt: 12}},
		{"the least is 0", []api.Counts{full(), {Done: 1}, full()}, api.Counts{Pass: 6, Block: 10, Done: 15, Errors: 4, RtSum: 220}},
		{"the least is 0, and ahead", []api.Counts{{Done: 1}, full()}, api.Counts{Pass: 3, Block: 5, Done: 8, Errors: 2, RtSum: 110}},
		{"without ends no least", []api.Counts{{Pass: 1}, full(), {Block: 1}}, api.Counts{Pass: 4, Block: 6, Done: 7, Errors: 2, RtSum: 110, MinRt: 13}},
		{"just as great", []api.Counts{{Pass: most - 1}, {Pass: 1}}, api.Counts{Pass: most}},
		{"greater", []api.Counts{{Pass: most - 1}, {Pass: 2}}, api.Counts{Pass: most}},
		{"as great and more", []api.Counts{{Block: most}, {Block: most}, {Block: most}}, api.Counts{Block: most}},
		{"all as great twice", []api.Counts{greatest(most), greatest(7)}, api.Counts{Pass: most, Block: most, Done: most, Errors: most, RtSum: most, MinRt: 7}},
	}
	for _, x := range tests {
		if got := window.Join(x.l...); got != x.want {
			t.Errorf("%s: Join = %+v, want %+v", x.name, got, x.want)
		}
	}
}

// P3.1: Join takes those that are right, and leaves the others out, at any place.
func TestJoinTakesTheRight(t *testing.T) {
	for name, c := range rightCounts() {
		if got := window.Join(c); got != c {
			t.Errorf("%s: Join = %+v", name, got)
		}
		if got, want := window.Join(full(), c, full()), together(full(), c, full()); got != want {
			t.Errorf("%s: Join = %+v, want %+v", name, got, want)
		}
	}
	for name, c := range wrongCounts() {
		if got := window.Join(c); got != (api.Counts{}) {
			t.Errorf("%s: Join = %+v", name, got)
		}
		for at := range 3 {
			l := slices.Insert([]api.Counts{full(), full()}, at, c)
			if got, want := window.Join(l...), together(full(), full()); got != want {
				t.Errorf("%s, at %d: Join = %+v, want %+v", name, at, got, want)
			}
		}
	}
}

// P3: what is handed to Join stays.
func TestJoinLeavesList(t *testing.T) {
	l := []api.Counts{full(), {Pass: -1}, {Pass: 1}, {Pass: 2}}
	was := slices.Clone(l)
	window.Join(l[:3]...)
	if !slices.Equal(l, was) {
		t.Errorf("the list became %v", l)
	}
}
