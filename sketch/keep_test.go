package sketch

import (
	"strconv"
	"testing"

	"spillway/api"
)

// P6.1: a sketch keeps the buckets that a later time can ask for, and no more than its numbers in each, however long it is used.
func TestKeepsItsBucketsAlone(t *testing.T) {
	for _, buckets := range []int{1, 2, 10, api.MaxBuckets} {
		s, _ := New(10*buckets, buckets, 3, 5, 1)
		for at := range 3000 {
			if err := s.Add(at, strconv.Itoa(at%40), 1); err != api.OK {
				t.Fatal(err)
			}
			if len(s.kept) > buckets || cap(s.kept) > 4*buckets {
				t.Fatalf("at %d: %d buckets, in room for %d, of %d", at, len(s.kept), cap(s.kept), buckets)
			}
			for _, b := range s.kept {
				if len(b.numbers) > 3*5 {
					t.Fatalf("at %d: %d numbers", at, len(b.numbers))
				}
			}
		}
		s.Add(api.MaxTime, "a")
		if len(s.kept) != 0 {
			t.Errorf("of %d buckets %d are kept that left the window", buckets, len(s.kept))
		}
	}
}
