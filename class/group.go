package class

import (
	"cayley/api"
	"cayley/known"
	"cayley/set"
)

// group is one with its classes, by their least things, and of each thing the
// number of its class.
type group struct {
	known.Group
	classes [][]int
	numbers []int
}

// opened is g with its classes, and what is wrong with it. A class is met first
// at its least thing, so they stand by these.
func opened(g api.Group) (group, api.Fault) {
	h, f := known.Open(g)
	if f.Code != api.OK {
		return group{}, f
	}
	out := group{Group: h, numbers: make([]int, h.N)}
	var met set.Set
	for x := range h.N {
		if met.Has(x) {
			continue
		}
		s := classOf(h, x)
		met |= s
		l := s.List()
		for _, y := range l {
			out.numbers[y] = len(out.classes)
		}
		out.classes = append(out.classes, l)
	}
	return out, api.Fault{}
}

// classOf is the class of x.
func classOf(g known.Group, x int) set.Set {
	var s set.Set
	for a := range g.N {
		s |= set.Of(g.Conjugate(x, a))
	}
	return s
}

// power is a, n times; of n below 0 its inverse, -n times. It is enough to take
// what is left of n by N, as a, N times, is the one (Lagrange).
func (g group) power(a, n int) int {
	// -n is never reckoned: the least int has none.
	times := n % g.N
	if times < 0 {
		times += g.N
	}
	power := g.One
	for range times {
		power = g.Product(power, a)
	}
	return power
}

// times has of the classes i, j and k in how many ways the least thing of k is
// the product of a thing of i and one of j. To each first thing there is one
// second thing alone.
func (g group) times() [][][]int {
	ways := noWays(len(g.classes))
	for k, l := range g.classes {
		for a := range g.N {
			b := g.Product(g.Inverses[a], l[0])
			ways[g.numbers[a]][g.numbers[b]][k]++
		}
	}
	return ways
}

// noWays has 0 for any three numbers below n.
func noWays(n int) [][][]int {
	ways := make([][][]int, n)
	for i := range n {
		ways[i] = make([][]int, n)
		for j := range n {
			ways[i][j] = make([]int, n)
		}
	}
	return ways
}
