package sylow

import (
	"cayley/known"
	"cayley/set"
)

// isPower: is n, which is above 0, a power of p (1 is one, too)?
func isPower(n, p int) bool {
	for n%p == 0 {
		n /= p
	}
	return n == 1
}

// grown is one of Sylow's subgroups by p: the one alone, with a thing more
// again and again. It ends with none but these, as any other subgroup of a
// power of p things is in one of them, and so has things beside it with which
// it makes a greater one.
func grown(g known.Group, p int) set.Set {
	s := set.Of(g.One)
grow:
	for {
		for a := range g.N {
			greater := g.Made(s | set.Of(a))
			if greater != s && isPower(greater.Len(), p) {
				s = greater
				continue grow
			}
		}
		return s
	}
}

// subgroups are Sylow's by p: one of them, conjugated by each thing, as any two
// are conjugate.
func subgroups(g known.Group, p int) map[set.Set]struct{} {
	first := grown(g, p)
	out := map[set.Set]struct{}{}
	for a := range g.N {
		out[g.Conjugated(first, a)] = struct{}{}
	}
	return out
}
