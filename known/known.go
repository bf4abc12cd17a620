// Package known: groups in which nothing is wrong, with what the layers ask of
// them again and again.
package known

import (
	"cayley/api"
	"cayley/set"
	"cayley/table"
)

// Group is a table in which nothing is wrong. It has the table that was handed
// over, not a copy: no call keeps one.
type Group struct {
	api.Group
	One      int
	Inverses []int
}

// Open is g as a group, and what is wrong with it.
func Open(g api.Group) (Group, api.Fault) {
	one, f := table.One(g)
	if f.Code != api.OK {
		return Group{}, f
	}
	inverses := make([]int, g.N)
	for at, c := range g.Mul {
		if c == one {
			inverses[at/g.N] = at % g.N
		}
	}
	return Group{Group: g, One: one, Inverses: inverses}, api.Fault{}
}

// Has: is a a thing of g?
func (g Group) Has(a int) bool { return a >= 0 && a < g.N }

// Product is a b.
func (g Group) Product(a, b int) int { return g.Mul[a*g.N+b] }

// Conjugate is x, conjugated by a.
func (g Group) Conjugate(x, a int) int {
	return g.Product(g.Product(g.Inverses[a], x), a)
}

// Conjugated has all things of s, conjugated by a.
func (g Group) Conjugated(s set.Set, a int) set.Set {
	var out set.Set
	for _, x := range s.List() {
		out |= set.Of(g.Conjugate(x, a))
	}
	return out
}

// Commutator is that of a and b.
func (g Group) Commutator(a, b int) int {
	return g.Product(g.Inverses[a], g.Conjugate(a, b))
}

// Those has all things of which it is so.
func (g Group) Those(so func(a int) bool) set.Set {
	var s set.Set
	for a := range g.N {
		if so(a) {
			s |= set.Of(a)
		}
	}
	return s
}

// All has each thing.
func (g Group) All() set.Set {
	return g.Those(func(a int) bool { return true })
}

// Made is the least subgroup that has all of s. Products of s are enough: an
// inverse is a power, as things are finitely many.
func (g Group) Made(s set.Set) set.Set {
	var subgroup set.Set
	var found []int
	take := func(a int) {
		if !subgroup.Has(a) {
			subgroup |= set.Of(a)
			found = append(found, a)
		}
	}
	makers := s.List()
	take(g.One)
	for at := 0; at < len(found); at++ { // found grows meanwhile
		for _, a := range makers {
			take(g.Product(found[at], a))
		}
	}
	return subgroup
}

// Commutators is the subgroup that all commutators of a thing of s and one of t
// make.
func (g Group) Commutators(s, t set.Set) set.Set {
	var commutators set.Set
	for _, a := range s.List() {
		for _, b := range t.List() {
			commutators |= set.Of(g.Commutator(a, b))
		}
	}
	return g.Made(commutators)
}

// Closure is the least subgroup that has all of s and is, conjugated by each
// thing of the subgroup by, the same.
func (g Group) Closure(s, by set.Set) set.Set {
	var conjugates set.Set
	for _, a := range by.List() {
		conjugates |= g.Conjugated(s, a)
	}
	return g.Made(conjugates)
}
