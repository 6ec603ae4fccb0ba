package breaker_test

import (
	"math/rand"
	"testing"

	"spillway/api"
	"spillway/breaker"
)

// P14.4, E4: between a trip and its until nothing passes; from then on, till the probe ends or is given up, one call; that one's end decides. P14.5: a closed one lets all pass.
func TestPasses(t *testing.T) {
	r := rand.New(rand.NewSource(144))
	for range 500 {
		rule := anyRule(r)
		b := breakerOf(t, rule)
		at, isOut := r.Intn(second), false // isOut: the probe passed, and is not over
		for range 100 {
			at += pick(r, 0, 1, r.Intn(second), r.Intn(3*second))
			until, isOpen := b.Until()
			passes, probe, err := b.Enter(at)
			if err != api.OK {
				t.Fatal(err)
			}
			switch may := !isOpen || at >= until && !isOut; {
			case passes != may:
				t.Fatalf("at %d it lets pass: %v; open %v until %d, the probe is out: %v", at, passes, isOpen, until, isOut)
			case probe != (passes && isOpen):
				t.Fatalf("at %d: the probe %v", at, probe)
			}
			isOut = isOut || probe
			if isOut && r.Intn(3) == 0 {
				endProbe(t, r, b, rule, at)
				isOut = false
			}
			trips, failed := b.Trips(), r.Intn(2) == 0
			done(t, b, at, pick(r, 0, hour+1), failed, false)
			if now, tripped := b.Until(); b.Trips() != trips && (!tripped || now != at+rule.Recover) {
				t.Fatalf("tripped at %d: until %d", at, now)
			}
		}
	}
}

// endProbe lets the probe be over in one of three ways.
func endProbe(t *testing.T, r *rand.Rand, b *breaker.Breaker, rule api.Break, at int) {
	t.Helper()
	was, _ := b.Until()
	switch r.Intn(3) {
	case 0:
		done(t, b, at, 0, false, true)
		stands(t, "a probe that ends well", b, breaker.Closed, -1, b.Trips())
	case 1:
		trips := b.Trips()
		done(t, b, at, hour+1, true, true)
		stands(t, "a probe that ends badly", b, breaker.Open, at+rule.Recover, trips+1)
	default:
		if err := b.GiveUp(at); err != api.OK {
			t.Fatal(err)
		}
		stands(t, "a probe that is given up", b, breaker.Open, was, b.Trips())
	}
}

// P14.5: a closed one lets all pass, at any time, and none is a probe.
func TestClosed(t *testing.T) {
	b := breakerOf(t, errorRatio)
	for i, at := range []int{0, 0, 1, second, hour, api.MaxTime, api.MaxTime} {
		done(t, b, at, 0, i%2 == 0, false)
		if passes, err := b.Look(at); !passes || err != api.OK {
			t.Errorf("Look(%d) = %v, %v", at, passes, err)
		}
		if passes, probe, err := b.Enter(at); !passes || probe || err != api.OK {
			t.Errorf("Enter(%d) = %v, %v, %v", at, passes, probe, err)
		}
		stands(t, "closed", b, breaker.Closed, -1, 0)
	}
}

// P14.6: with ends between that come while it is open, or half open, all else is as without them.
func TestLateEndsChangeNothing(t *testing.T) {
	r := rand.New(rand.NewSource(146))
	late := 0
	for range 500 {
		rule := anyRule(r)
		with, without := breakerOf(t, rule), breakerOf(t, rule)
		at := 0
		for range 100 {
			at += r.Intn(second)
			if with.State() != breaker.Closed {
				done(t, with, at, pick(r, 0, hour+1), r.Intn(2) == 0, false)
				late++
			}
			passes, probe, _ := with.Enter(at)
			if otherPasses, otherProbe, _ := without.Enter(at); passes != otherPasses || probe != otherProbe {
				t.Fatalf("at %d: %v, %v, without the late ends %v, %v", at, passes, probe, otherPasses, otherProbe)
			}
			if rt, failed := pick(r, 0, hour+1), r.Intn(2) == 0; passes {
				done(t, with, at, rt, failed, probe)
				done(t, without, at, rt, failed, probe)
			}
			if stateOf(with) != stateOf(without) {
				t.Fatalf("at %d: %+v, without the late ends %+v", at, stateOf(with), stateOf(without))
			}
		}
	}
	if late < 1000 {
		t.Errorf("only %d late ends", late)
	}
}

// P14.7: of two with the same ends, but that fewer of the one are bad, that one trips not sooner.
func TestFewerBad(t *testing.T) {
	r := rand.New(rand.NewSource(147))
	trips := 0
	for range 2000 {
		rule := anyRule(r)
		more, fewer := breakerOf(t, rule), breakerOf(t, rule)
		at, seldom := r.Intn(second), 1+r.Intn(5)
		for range 60 {
			at += r.Intn(second / 10)
			bad := r.Intn(seldom) == 0
			less := bad && r.Intn(3) > 0
			done(t, more, at, rtOf(bad), bad, false)
			done(t, fewer, at, rtOf(less), less, false)
			if more.State() == breaker.Open {
				trips++
				break
			}
			if fewer.State() == breaker.Open {
				t.Fatalf("of %+v the one with fewer bad ends tripped at %d", rule, at)
			}
		}
	}
	if trips < 500 {
		t.Errorf("only %d tripped", trips)
	}
}

func rtOf(bad bool) int {
	if bad {
		return hour + 1
	}
	return 0
}
