package prod

import (
	"cayley/known"
	"cayley/set"
)

// completes: have l and m the one alone, and do they make whole together?
func completes(g known.Group, l, m, whole set.Set) bool {
	return l&m == set.Of(g.One) && g.Made(l|m) == whole
}

// direct: is the subgroup whole the direct product of l and m? Things commute
// where their commutator is the one.
func direct(g known.Group, l, m, whole set.Set) bool {
	return completes(g, l, m, whole) && g.Commutators(l, m) == set.Of(g.One)
}

// split has subgroups of which g is the direct product, and none of which is
// one of two smaller ones, in no order that matters. Where one is found that is,
// both of these are split by themselves: all things of the one commute with all
// of the other, and so do those of their parts.
func split(g known.Group, subgroups [][]int) []set.Set {
	var parts func(whole set.Set) []set.Set
	parts = func(whole set.Set) []set.Set {
		for i, l := range subgroups {
			for _, m := range subgroups[i:] {
				s, t := set.Of(l...), set.Of(m...)
				if s != whole && t != whole && direct(g, s, t, whole) {
					return append(parts(s), parts(t)...)
				}
			}
		}
		return []set.Set{whole}
	}
	return parts(g.All())
}
