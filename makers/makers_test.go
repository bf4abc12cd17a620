package makers_test

import (
	"slices"
	"testing"

	"cayley/api"
	"cayley/makers"
)

func TestCheck(t *testing.T) {
	swap := []int{1, 0}
	cases := []struct {
		name string
		l    [][]int
		want api.Fault
	}{
		{"none", nil, api.Fault{Code: api.ErrMany}},
		{"one", [][]int{swap}, api.Fault{}},
		{"no points", [][]int{nil, {}}, api.Fault{}},
		{"20", slices.Repeat([][]int{swap}, 20), api.Fault{}},
		{"21", slices.Repeat([][]int{swap}, 21), api.Fault{Code: api.ErrMany}},
		{"many points", [][]int{swap, make([]int, 1001)}, api.Fault{Code: api.ErrMany, At: 1}},
		{"range", [][]int{swap, swap, {0, 2}}, api.Fault{Code: api.ErrRange, At: 2}},
		{"twice", [][]int{swap, {1, 1}, {7}}, api.Fault{Code: api.ErrTwice, At: 1}},
		{"size", [][]int{swap, {0}, {7}}, api.Fault{Code: api.ErrSize, At: 1}},
		{"wrong, and of another size", [][]int{swap, {7}}, api.Fault{Code: api.ErrRange, At: 1}},
	}
	for _, c := range cases {
		if got := makers.Check(c.l); got != c.want {
			t.Errorf("%s: %v, want %v", c.name, got, c.want)
		}
	}
}
