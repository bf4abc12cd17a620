package series

import (
	"cayley/known"
	"cayley/set"
)

// steps has first, and what next makes of the last one, as long as it is
// another one.
func steps(first set.Set, next func(last set.Set) set.Set) []set.Set {
	out := []set.Set{first}
	for {
		last := out[len(out)-1]
		another := next(last)
		if another == last {
			return out
		}
		out = append(out, another)
	}
}

func derived(g known.Group) []set.Set {
	return steps(g.All(), func(last set.Set) set.Set { return g.Commutators(last, last) })
}

func lower(g known.Group) []set.Set {
	return steps(g.All(), func(last set.Set) set.Set { return g.Commutators(last, g.All()) })
}

func upper(g known.Group) []set.Set {
	return steps(set.Of(g.One), func(last set.Set) set.Set {
		return g.Those(func(a int) bool {
			for b := range g.N {
				if !last.Has(g.Commutator(a, b)) {
					return false
				}
			}
			return true
		})
	})
}

func composition(g known.Group) []set.Set {
	return steps(g.All(), func(last set.Set) set.Set { return greatest(g, last) })
}

// greatest is a normal subgroup of s that is not all of it, and in no other
// such one, so that s has, by it, a simple quotient; of the one alone it is
// that. It is the one, with a thing more again and again: where it ends, any
// normal subgroup that has more has all of s.
func greatest(g known.Group, s set.Set) set.Set {
	normal := set.Of(g.One)
grow:
	for {
		for _, a := range (s &^ normal).List() {
			if greater := g.Closure(normal|set.Of(a), s); greater != s {
				normal = greater
				continue grow
			}
		}
		return normal
	}
}
