package rules_test

import (
	"math/rand"
	"reflect"
	"testing"

	"spillway/api"
	"spillway/rules"
)

func now(t *testing.T, s *rules.Store, want api.Rules, times int) {
	t.Helper()
	if got, n := s.Now(); !rules.Same(got, want) || n != times {
		t.Fatalf("Now: %+v, %d, want %+v, %d", got, n, want, times)
	}
}

// P7.4: rules are replaced as a whole, by none too; a store counts how often.
func TestStore(t *testing.T) {
	s := rules.NewStore()
	now(t, s, api.Rules{}, 0)
	for i, r := range []api.Rules{all(), all(), {}, many(256, 1, 2, 3, 4), many(1, 0, 0, 0, 0)} {
		if err := s.Load(r); err != api.OK {
			t.Fatal(err)
		}
		now(t, s, r, i+1)
	}
	now(t, rules.NewStore(), api.Rules{}, 0)
}

// P7.4, P1: a nil store.
func TestNilStore(t *testing.T) {
	var s *rules.Store
	if err := s.Load(api.Rules{}); err != api.ErrNil {
		t.Errorf("Load: %v", err)
	}
	if err := s.Load(many(257, 0, 0, 0, 0)); err != api.ErrNil {
		t.Errorf("Load of too many: %v", err)
	}
	if r, n := s.Now(); !reflect.DeepEqual(r, api.Rules{}) || n != 0 {
		t.Errorf("Now: %+v, %d", r, n)
	}
}

// P7.4, P7.6: what is refused has Where's error, and changes nothing.
func TestStoreRefuses(t *testing.T) {
	s := rules.NewStore()
	if err := s.Load(all()); err != api.OK {
		t.Fatal(err)
	}
	wrong := all()
	wrong.Lists[1].Resource = "a b"
	brief, soon := all(), all()
	brief.Breaks[1].Window, soon.Breaks[0].Recover = 1, 1
	tests := []struct {
		r    api.Rules
		want api.Errno
	}{
		{many(257, 0, 0, 0, 0), api.ErrLong},
		{many(0, 0, 0, 0, 257), api.ErrLong},
		{spoil(all(), 1, api.FlowRule, api.ListRule), api.ErrFlow},
		{spoil(all(), 1, api.BreakRule, api.ListRule), api.ErrBreak},
		{spoil(all(), 1, api.HotRule), api.ErrHot},
		{spoil(all(), 0, api.SystemRule), api.ErrSystem},
		{spoil(all(), 1, api.ListRule), api.ErrList},
		{wrong, api.ErrName},
		{brief, api.ErrBreak},
		{soon, api.ErrBreak},
	}
	for _, x := range tests {
		if err := s.Load(x.r); err != x.want {
			t.Errorf("Load: %v, want %v", err, x.want)
		}
		now(t, s, all(), 1)
	}
}

// P3: what a store keeps lies neither in what was handed in nor in what was answered.
func TestStoreKeepsItsOwn(t *testing.T) {
	s, r := rules.NewStore(), roomy(all())
	if err := s.Load(r); err != api.OK {
		t.Fatal(err)
	}
	if !reflect.DeepEqual(r, all()) || !behind(r) {
		t.Error("Load changed what was handed in")
	}
	scratch(r)
	now(t, s, all(), 1)
	got, _ := s.Now()
	scratch(got)
	now(t, s, all(), 1)
}

// P7.6: by many loads in a row, some of which are refused.
func TestStoreInARow(t *testing.T) {
	r := rand.New(rand.NewSource(3))
	s := rules.NewStore()
	var want api.Rules
	times := 0
	for range 500 {
		next := many(r.Intn(3), r.Intn(3), r.Intn(3), r.Intn(3), r.Intn(3))
		for i := range next.Flows {
			next.Flows[i].Count = r.Intn(4) - 1
		}
		_, _, wrong := rules.Where(next)
		if err := s.Load(next); err != wrong {
			t.Fatalf("Load: %v, want %v", err, wrong)
		}
		if wrong == api.OK {
			want, times = next, times+1
		}
		now(t, s, want, times)
	}
}
