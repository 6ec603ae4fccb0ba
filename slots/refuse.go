package slots

import (
	"slices"

	"spillway/api"
	"spillway/tree"
)

// refuses is the error of a call that would enter, if it has one, but that the tree may be full.
func (e *Engine) refuses(c api.Call) api.Errno {
	if e == nil {
		return api.ErrNil
	}
	_, err := tree.Keys(c)
	switch {
	case err != api.OK:
		return err
	case !isTime(c.At) || !within(c.Count, 1, api.MaxCount):
		return api.ErrRange
	case len(c.Args) > api.MaxArgs || slices.ContainsFunc(c.Args, isLong):
		return api.ErrLong
	case c.At < e.Last():
		return api.ErrBack
	case len(e.entries) >= api.MaxEntries:
		return api.ErrFull
	}
	return api.OK
}

func isLong(arg string) bool { return len(arg) > api.MaxName }

func isTime(at int) bool { return within(at, 0, api.MaxTime) }

func within(n, least, most int) bool { return n >= least && n <= most }
