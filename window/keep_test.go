package window

import (
	"testing"

	"spillway/api"
)

// P3.2: a window keeps the buckets that a later time can ask for, and no more, however long it is used.
func TestKeepsItsBucketsAlone(t *testing.T) {
	for _, size := range []int{1, 2, 10, api.MaxBuckets} {
		w, _ := New(10*size, size)
		for at := range 3000 {
			if err := w.Add(at, api.Counts{Pass: 1}); err != api.OK {
				t.Fatal(err)
			}
			if len(w.buckets) > size || cap(w.buckets) > 4*size {
				t.Fatalf("at %d: %d buckets, in room for %d, of %d", at, len(w.buckets), cap(w.buckets), size)
			}
		}
		w.Add(api.MaxTime)
		if len(w.buckets) != 0 {
			t.Errorf("of %d buckets %d are kept that left the window", size, len(w.buckets))
		}
	}
}
