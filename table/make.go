package table

import (
	"slices"

	"cayley/api"
	"cayley/makers"
	"cayley/perm"
)

// madeBy is the group of n things whose products multiply tells.
func madeBy(n int, multiply func(a, b int) int) api.Group {
	g := api.Group{N: n, Mul: make([]int, n*n)}
	for a := range n {
		for b := range n {
			g.Mul[a*n+b] = multiply(a, b)
		}
	}
	return g
}

// Cyclic is the group of n things whose products are sums by n.
func Cyclic(n int) (api.Group, api.Fault) {
	if n < 1 || n > api.MaxGroup {
		return api.Group{}, api.Fault{Code: api.ErrRange}
	}
	return madeBy(n, func(a, b int) int { return (a + b) % n }), api.Fault{}
}

// Dihedral is the group of n turns r^i and of n things r^i s.
func Dihedral(n int) (api.Group, api.Fault) {
	if n < 1 || n > api.MaxGroup/2 {
		return api.Group{}, api.Fault{Code: api.ErrRange}
	}
	return turned(n, 0), api.Fault{}
}

// Dicyclic is the group of 2 n things a^i and of 2 n things a^i x.
func Dicyclic(n int) (api.Group, api.Fault) {
	if n < 1 || n > api.MaxGroup/4 {
		return api.Group{}, api.Fault{Code: api.ErrRange}
	}
	return turned(2*n, n), api.Fault{}
}

// turned has the things r^i at i and r^i s at m + i, with r^m = 1, s r = r^-1 s
// and s s = r^square: in this alone Dihedral and Dicyclic differ.
func turned(m, square int) api.Group {
	return madeBy(2*m, func(a, b int) int {
		i, k := a%m, b%m
		switch {
		case a < m && b < m:
			return (i + k) % m
		case a < m:
			return m + (i+k)%m
		case b < m:
			return m + (i-k+m)%m
		}
		return (i - k + m + square) % m
	})
}

// Product has the pairs of g's and h's things.
func Product(g, h api.Group) (api.Group, api.Fault) {
	if f := Check(g); f.Code != api.OK {
		return api.Group{}, f
	}
	if f := Check(h); f.Code != api.OK {
		return api.Group{}, f
	}
	if g.N*h.N > api.MaxGroup {
		return api.Group{}, api.Fault{Code: api.ErrMuch}
	}
	pairs := madeBy(g.N*h.N, func(a, b int) int {
		return product(g, a/h.N, b/h.N)*h.N + product(h, a%h.N, b%h.N)
	})
	return pairs, api.Fault{}
}

// Perms is the group that the permutations of l make, and its things.
func Perms(l [][]int) (api.Group, [][]int, api.Fault) {
	if f := makers.Check(l); f.Code != api.OK {
		return api.Group{}, nil, f
	}
	things := allProducts(l)
	if len(things) > api.MaxGroup {
		return api.Group{}, nil, api.Fault{Code: api.ErrMuch}
	}
	g := madeBy(len(things), func(a, b int) int {
		at, _ := place(things, moved(things[a], things[b]))
		return at
	})
	return g, things, api.Fault{}
}

// allProducts has all products of l's, rising; or some of them, if they are
// more than MaxGroup. What stays is one of them: each is it, often enough.
func allProducts(l [][]int) [][]int {
	var things, fresh [][]int // fresh: those that are not multiplied so far
	take := func(p []int) {
		if at, there := place(things, p); !there {
			things = slices.Insert(things, at, p)
			fresh = append(fresh, p)
		}
	}
	for _, p := range l {
		take(slices.Clone(p))
	}
	for len(fresh) > 0 && len(things) <= api.MaxGroup {
		p := fresh[0]
		fresh = fresh[1:]
		for _, q := range l {
			take(moved(p, q))
		}
	}
	return things
}

// place is where p stands, or would stand, in a list that rises.
func place(list [][]int, p []int) (int, bool) {
	return slices.BinarySearchFunc(list, p, slices.Compare[[]int])
}

// moved leaves the fault away: both are permutations of as many points.
func moved(p, q []int) []int {
	m, _ := perm.Mul(p, q)
	return m
}
