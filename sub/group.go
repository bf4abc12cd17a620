package sub

import (
	"slices"

	"cayley/api"
	"cayley/set"
	"cayley/table"
)

// group is a table in which nothing is wrong, with what is asked of it again
// and again.
type group struct {
	api.Group
	one      int
	inverses []int
}

// opened is g as a group, and what is wrong with it.
func opened(g api.Group) (group, api.Fault) {
	one, f := table.One(g)
	if f.Code != api.OK {
		return group{}, f
	}
	inverses := make([]int, g.N)
	for at, c := range g.Mul {
		if c == one {
			inverses[at/g.N] = at % g.N
		}
	}
	return group{Group: g, one: one, inverses: inverses}, api.Fault{}
}

func (g group) product(a, b int) int { return g.Mul[a*g.N+b] }

// conjugate is x, conjugated by a.
func (g group) conjugate(x, a int) int {
	return g.product(g.product(g.inverses[a], x), a)
}

func (g group) commutator(a, b int) int {
	return g.product(g.inverses[a], g.conjugate(a, b))
}

// those has all things of which it is so.
func (g group) those(so func(a int) bool) set.Set {
	var s set.Set
	for a := range g.N {
		if so(a) {
			s |= set.Of(a)
		}
	}
	return s
}

// all has each thing.
func (g group) all() set.Set {
	return g.those(func(a int) bool { return true })
}

// made is the least subgroup that has all of s. Products of s are enough: an
// inverse is a power, as things are finitely many.
func (g group) made(s set.Set) set.Set {
	var subgroup set.Set
	var found []int
	take := func(a int) {
		if !subgroup.Has(a) {
			subgroup |= set.Of(a)
			found = append(found, a)
		}
	}
	makers := s.List()
	take(g.one)
	for at := 0; at < len(found); at++ { // found grows meanwhile
		for _, a := range makers {
			take(g.product(found[at], a))
		}
	}
	return subgroup
}

// central has all things that commute with each of s.
func (g group) central(s set.Set) set.Set {
	list := s.List()
	return g.those(func(a int) bool {
		for _, x := range list {
			if g.product(a, x) != g.product(x, a) {
				return false
			}
		}
		return true
	})
}

// conjugated has all things of s, conjugated by a.
func (g group) conjugated(s set.Set, a int) set.Set {
	var out set.Set
	for _, x := range s.List() {
		out |= set.Of(g.conjugate(x, a))
	}
	return out
}

// normaliser has all things by which s, conjugated, is s.
func (g group) normaliser(s set.Set) set.Set {
	return g.those(func(a int) bool { return g.conjugated(s, a) == s })
}

// subgroups has each subgroup once, in no order that matters: from the one
// alone on, each is made with one thing more, in each way. None is missed, as
// each is made by its things, one after the other.
func (g group) subgroups() []set.Set {
	var found []set.Set
	seen := map[set.Set]struct{}{}
	take := func(s set.Set) {
		if _, there := seen[s]; !there {
			seen[s] = struct{}{}
			found = append(found, s)
		}
	}
	take(set.Of(g.one))
	for at := 0; at < len(found); at++ { // found grows meanwhile
		for a := range g.N {
			take(g.made(found[at] | set.Of(a)))
		}
	}
	return found
}

// greatest has the subgroups that are not all of the group and in no other one
// that is not all of it.
func (g group) greatest() []set.Set {
	all := g.all()
	proper := slices.DeleteFunc(g.subgroups(), func(s set.Set) bool { return s == all })
	var out []set.Set
	for _, s := range proper {
		if !slices.ContainsFunc(proper, func(t set.Set) bool { return s != t && s.In(t) }) {
			out = append(out, s)
		}
	}
	return out
}
