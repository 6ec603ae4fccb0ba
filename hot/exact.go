package hot

import (
	"spillway/api"
	"spillway/lru"
	"spillway/window"
)

// exact is the values that are kept exactly: the map says which they are, and which of them goes first; each has a window, and no other value has.
type exact struct {
	*lru.Map
	windows map[string]*window.Window
}

func newExact(keys int) (exact, api.Errno) {
	m, err := lru.New(keys)
	if err != api.OK {
		return exact{}, err
	}
	return exact{Map: m, windows: map[string]*window.Window{}}, api.OK
}

func (e exact) has(value string) bool { return e.windows[value] != nil }

// passed is the Pass of a value's window at a time that it did not leave behind; false: it is not kept.
func (e exact) passed(at int, value string) (int, bool) {
	if !e.has(value) {
		return 0, false
	}
	c, _ := e.windows[value].Sum(at)
	return c.Pass, true
}

// keep lets a new value be kept, with a window; the one that was touched least recently may go for it. What stands in the map beside a key is of no account.
func (e exact) keep(value string, w *window.Window) {
	if gone, some, _ := e.Put(value, 0); some {
		delete(e.windows, gone)
	}
	e.windows[value] = w
}

// note touches a value that is kept, and its window has so many tokens more.
func (e exact) note(at int, value string, count int) {
	e.Get(value)
	e.windows[value].Add(at, api.Counts{Pass: count})
}

func (e exact) fork() exact {
	windows := make(map[string]*window.Window, len(e.windows))
	for value, w := range e.windows {
		windows[value] = w.Fork()
	}
	return exact{Map: e.Fork(), windows: windows}
}
