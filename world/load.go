package world

import (
	"slices"
	"sort"

	"spillway/api"
)

// Sample is the load, and the share of the processor, in thousandths, from a time on.
type Sample struct {
	At, Load, Cpu int
}

// Load is samples, in the order of their times.
type Load struct {
	samples []Sample
}

// NewLoad has some.
func NewLoad(l ...Sample) (*Load, api.Errno) {
	load := &Load{}
	if err := load.Add(l...); err != api.OK {
		return nil, err
	}
	return load, api.OK
}

// Add puts samples behind.
func (l *Load) Add(s ...Sample) api.Errno {
	if l == nil {
		return api.ErrNil
	}
	last := l.last()
	for i, x := range s {
		switch {
		case !x.mayBe():
			return api.ErrRange
		case x.At < last:
			return api.ErrBack
		case len(l.samples)+i >= api.MaxOps:
			return api.ErrFull
		}
		last = x.At
	}
	l.samples = append(l.samples, s...)
	return api.OK
}

// At is the one that is so at a time.
func (l *Load) At(at int) Sample {
	if l == nil {
		return Sample{}
	}
	later := sort.Search(len(l.samples), func(i int) bool { return l.samples[i].At > at })
	if later == 0 {
		return Sample{}
	}
	return l.samples[later-1]
}

// Samples are all.
func (l *Load) Samples() []Sample {
	if l == nil {
		return nil
	}
	return slices.Clone(l.samples)
}

// Fork is another one with the same.
func (l *Load) Fork() *Load {
	if l == nil {
		return nil
	}
	return &Load{samples: slices.Clone(l.samples)}
}

// last is the time of the last sample; 0 without one, as no time is below that.
func (l *Load) last() int {
	if len(l.samples) == 0 {
		return 0
	}
	return l.samples[len(l.samples)-1].At
}
