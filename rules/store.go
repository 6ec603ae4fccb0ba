package rules

import "spillway/api"

// Store is rules that are replaced as a whole.
type Store struct {
	now      api.Rules
	replaced int
}

// NewStore has none.
func NewStore() *Store { return &Store{} }

// Load replaces them.
func (s *Store) Load(r api.Rules) api.Errno {
	if s == nil {
		return api.ErrNil
	}
	if _, _, err := Where(r); err != api.OK {
		return err
	}
	s.now = Copy(r)
	s.replaced++
	return api.OK
}

// Now are the rules, and how often they were replaced.
func (s *Store) Now() (api.Rules, int) {
	if s == nil {
		return api.Rules{}, 0
	}
	return Copy(s.now), s.replaced
}
