package stat

import "spillway/api"

// flight is the entries that are not over.
type flight struct {
	entries int
}

// holds says whether so many more may come.
func (f *flight) holds(more int) bool { return more <= api.MaxEntries-f.entries }

// empty says that none is there.
func (f *flight) empty() bool { return f.entries == 0 }

func (f *flight) come(more int) { f.entries += more }

func (f *flight) leave() { f.entries-- }
