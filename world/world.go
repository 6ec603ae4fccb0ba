// Package world is time, chance and load by a script. See ../../shared/doc/02-world.md.
package world

import "spillway/api"

func isTime(at int) bool {
	return at >= 0 && at <= api.MaxTime
}

func isShare(n int) bool {
	return n >= 0 && n <= api.MaxCount
}

func (s Sample) mayBe() bool {
	return isTime(s.At) && isShare(s.Load) && isShare(s.Cpu)
}
