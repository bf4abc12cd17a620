package hom

import (
	"testing"

	"cayley/api"
)

// TestListedAtTheLimit asks the limit itself, from within: no two groups at
// hand have just 1000 homomorphisms.
func TestListedAtTheLimit(t *testing.T) {
	for _, c := range []struct{ yielded, listed, code int }{
		{0, 0, api.OK}, {api.MaxList, api.MaxList, api.OK}, {api.MaxList + 1, 0, api.ErrMuch}, {1 << 40, 0, api.ErrMuch},
	} {
		lists, f := listed(func(yield func(m []int) bool) {
			for i := 0; i < c.yielded && yield([]int{i}); i++ {
			}
		})
		if len(lists) != c.listed || f != (api.Fault{Code: c.code}) {
			t.Errorf("of %d: %d lists, %v", c.yielded, len(lists), f)
		}
	}
}
