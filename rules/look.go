package rules

import (
	"slices"

	"spillway/api"
)

const (
	hour       = 3600 // seconds
	maxSeconds = 60   // of a rule of hot parameters
	maxWindow  = 120  // seconds of a breaker's window
	wholeRatio = 1000 // thousandths
)

// flow, breaker, hot, system and list are rules that are looked at.
type flow struct{ api.Flow }

type breaker struct{ api.Break }

type hot struct{ api.Hot }

type system struct{ api.System }

type list struct{ api.Authority }

func (f flow) look() api.Errno {
	switch {
	case !f.isNamed():
		return api.ErrName
	case !f.mayCount(), !f.mayLook(), !f.mayWait(), !f.mayShare():
		return api.ErrFlow
	}
	return api.OK
}

func (f flow) isNamed() bool {
	needsRef := f.Strategy == api.Relate || f.Strategy == api.Chain
	return IsName(f.Resource) && IsName(f.Origin) && (!needsRef || IsName(f.Ref))
}

func (f flow) mayCount() bool {
	if f.Threads && (f.Shape != api.Reject || f.Cluster) {
		return false
	}
	least := 0
	if f.Shape != api.Reject {
		least = 1
	}
	return within(f.Count, least, api.MaxCount)
}

func (f flow) mayLook() bool {
	return f.Strategy <= api.Chain && (f.Strategy != api.Direct || f.Ref == "")
}

// mayWait is of its shape, and of how long it warms up and lets wait.
func (f flow) mayWait() bool {
	warms := f.Shape == api.WarmUp || f.Shape == api.WarmPace
	paces := f.Shape == api.Pace || f.Shape == api.WarmPace
	return f.Shape <= api.WarmPace && withinIf(warms, f.Warm, 1, hour) && withinIf(paces, f.Queue, 0, hour*api.Second)
}

// mayShare is of what it has from the server.
func (f flow) mayShare() bool {
	if !f.Cluster {
		return f.Id == 0 && !f.Fallback
	}
	return f.Strategy == api.Direct && f.Shape == api.Reject && within(f.Id, 1, api.MaxCount)
}

func (b breaker) look() api.Errno {
	switch {
	case !IsName(b.Resource):
		return api.ErrName
	case !b.mayCount(), !b.mayLast():
		return api.ErrBreak
	}
	return api.OK
}

func (b breaker) mayCount() bool {
	most := wholeRatio
	if b.Grade == api.ErrorCount {
		most = api.MaxCount
	}
	return b.Grade <= api.ErrorCount && within(b.Count, 0, most) && within(b.Least, 1, api.MaxCount)
}

// mayLast is of its times, which are microseconds: the least Window and Recover are a whole second, the least Slow is one microsecond.
func (b breaker) mayLast() bool {
	return withinIf(b.Grade == api.SlowRatio, b.Slow, 1, hour*api.Second) &&
		within(b.Window, api.Second, maxWindow*api.Second) &&
		within(b.Recover, api.Second, hour*api.Second)
}

func (h hot) look() api.Errno {
	switch {
	case !IsName(h.Resource):
		return api.ErrName
	case !within(h.Index, 0, api.MaxArgs-1), !within(h.Count, 0, api.MaxCount), !within(h.Seconds, 1, maxSeconds), !h.areItems():
		return api.ErrHot
	}
	return api.OK
}

func (h hot) areItems() bool {
	if len(h.Items) > api.MaxItems {
		return false
	}
	var values []string
	for _, item := range h.Items {
		if len(item.Value) > api.MaxName || !within(item.Count, 0, api.MaxCount) {
			return false
		}
		values = append(values, item.Value)
	}
	return areApart(values)
}

func (s system) look() api.Errno {
	for _, n := range []int{s.Qps, s.Threads, s.Rt, s.Load, s.Cpu} {
		if !within(n, -1, api.MaxCount) {
			return api.ErrSystem
		}
	}
	return api.OK
}

func (l list) look() api.Errno {
	isNone := func(s string) bool { return !IsName(s) }
	switch {
	case isNone(l.Resource), slices.ContainsFunc(l.Origins, isNone):
		return api.ErrName
	case !within(len(l.Origins), 1, api.MaxItems), !areApart(l.Origins):
		return api.ErrList
	}
	return api.OK
}

func within(n, lo, hi int) bool { return n >= lo && n <= hi }

// withinIf is within, if it is asked for; else it must be 0.
func withinIf(asked bool, n, lo, hi int) bool {
	if !asked {
		return n == 0
	}
	return within(n, lo, hi)
}

// areApart tells whether no two are alike.
func areApart(l []string) bool {
	return len(slices.Compact(slices.Sorted(slices.Values(l)))) == len(l)
}
