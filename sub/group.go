package sub

import (
	"slices"

	"cayley/known"
	"cayley/set"
)

// central has all things that commute with each of s.
func central(g known.Group, s set.Set) set.Set {
	list := s.List()
	return g.Those(func(a int) bool {
		for _, x := range list {
			if g.Product(a, x) != g.Product(x, a) {
				return false
			}
		}
		return true
	})
}

// normaliser has all things by which s, conjugated, is s.
func normaliser(g known.Group, s set.Set) set.Set {
	return g.Those(func(a int) bool { return g.Conjugated(s, a) == s })
}

// subgroups has each subgroup once, in no order that matters: from the one
// alone on, each is made with one thing more, in each way. None is missed, as
// each is made by its things, one after the other.
func subgroups(g known.Group) []set.Set {
	var found []set.Set
	seen := map[set.Set]struct{}{}
	take := func(s set.Set) {
		if _, there := seen[s]; !there {
			seen[s] = struct{}{}
			found = append(found, s)
		}
	}
	take(set.Of(g.One))
	for at := 0; at < len(found); at++ { // found grows meanwhile
		for a := range g.N {
			take(g.Made(found[at] | set.Of(a)))
		}
	}
	return found
}

// greatest has the subgroups that are not all of the group and in no other one
// that is not all of it.
func greatest(g known.Group) []set.Set {
	all := g.All()
	proper := slices.DeleteFunc(subgroups(g), func(s set.Set) bool { return s == all })
	var out []set.Set
	for _, s := range proper {
		if !slices.ContainsFunc(proper, func(t set.Set) bool { return s != t && s.In(t) }) {
			out = append(out, s)
		}
	}
	return out
}
