// Package makers: permutations that make a group, as the layers take them.
package makers

import (
	"cayley/api"
	"cayley/perm"
)

const most = 20

// Check tells what is wrong with l, permutation by permutation.
func Check(l [][]int) api.Fault {
	if len(l) < 1 || len(l) > most {
		return api.Fault{Code: api.ErrMany}
	}
	for i, p := range l {
		if f := perm.Check(p); f.Code != api.OK {
			return api.Fault{Code: f.Code, At: i}
		}
		if len(p) != len(l[0]) {
			return api.Fault{Code: api.ErrSize, At: i}
		}
	}
	return api.Fault{}
}
