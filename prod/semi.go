package prod

import (
	"cayley/api"
	"cayley/hom"
)

func product(g api.Group, a, b int) int { return g.Mul[a*g.N+b] }

// checked is what is wrong with act as that by which the things of h move those
// of n. Nothing is wrong with n and h.
func checked(n, h api.Group, act [][]int) api.Fault {
	if len(act) != h.N {
		return api.Fault{Code: api.ErrSize}
	}
	for i, m := range act {
		if code := checkedEntry(n, m); code != api.OK {
			return api.Fault{Code: code, At: i}
		}
	}
	for a := range h.N {
		if strays(h, act, a) {
			return api.Fault{Code: api.ErrFalse, At: a}
		}
	}
	return api.Fault{}
}

// checkedEntry is the code of what is wrong with m as an automorphism of n. Its
// image is asked as that tells all that hom.Check does, too.
func checkedEntry(n api.Group, m []int) int {
	image, f := hom.Image(n, n, m)
	if f.Code != api.OK {
		return f.Code
	}
	if len(image) < n.N {
		return api.ErrTwice
	}
	return api.OK
}

// strays: is there a b so that the entry for a b is not that for b first and
// then that for a?
func strays(h api.Group, act [][]int, a int) bool {
	for b := range h.N {
		for y, c := range act[product(h, a, b)] {
			if c != act[a][act[b][y]] {
				return true
			}
		}
	}
	return false
}

// pairs has those of n's and h's things; what stands first in the second one is
// moved by what stands second in the first one, ahead of being multiplied.
func pairs(n, h api.Group, act [][]int) api.Group {
	g := api.Group{N: n.N * h.N}
	for first := range g.N {
		x, a := first/h.N, first%h.N
		for second := range g.N {
			y, b := second/h.N, second%h.N
			g.Mul = append(g.Mul, product(n, x, act[a][y])*h.N+product(h, a, b))
		}
	}
	return g
}
