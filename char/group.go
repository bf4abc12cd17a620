package char

import (
	"cmp"
	"slices"

	"cayley/api"
	"cayley/class"
	"cayley/field"
	"cayley/table"
)

// group is what characters hang on: classes by their numbers, and the field in
// which is reckoned.
type group struct {
	things   int
	one      int   // the class of the one
	sizes    []int // of each class how many things it has
	inverses []int // of each class that of its things' inverses
	times    [][][]int
	field    field.Field
}

// opened is what characters of g hang on, and what is wrong with g. Times finds
// all that may be wrong, so no call behind it finds a fault.
func opened(g api.Group) (group, api.Fault) {
	times, f := class.Times(g)
	if f.Code != api.OK {
		return group{}, f
	}
	classes, _ := class.All(g)
	inverses, _ := class.Powers(g, -1)
	ones, _ := class.Powers(g, 0)
	exponent, _ := table.Exponent(g)
	sizes := make([]int, len(classes))
	for i, l := range classes {
		sizes[i] = len(l)
	}
	return group{
		things:   g.N,
		one:      ones[0],
		sizes:    sizes,
		inverses: inverses,
		times:    times,
		field:    field.Field{P: leastPrime(2*g.N, exponent)},
	}, api.Fault{}
}

// leastPrime is the least prime p above bound for which e divides p - 1. There
// is one, whatever e is (Dirichlet).
func leastPrime(bound, e int) int {
	p := bound + 1
	for (p-1)%e != 0 || !field.Prime(p) {
		p++
	}
	return p
}

// characters are all of them, in the order in which they are told.
func (g group) characters() [][]int {
	out := g.weights()
	for i, weights := range out {
		out[i] = g.character(weights)
	}
	slices.SortFunc(out, func(a, b []int) int {
		return cmp.Or(cmp.Compare(a[g.one], b[g.one]), slices.Compare(a, b))
	})
	return out
}

// character is the one of these weights.
func (g group) character(weights []int) []int {
	degree := g.degree(weights)
	out := make([]int, len(weights))
	for i, w := range weights {
		out[i] = w * degree % g.field.P * g.field.Inverse(g.sizes[i]) % g.field.P
	}
	return out
}

// degree is the number from 1 to N whose square, times the sum of the products
// of weights at inverses, is N. There is one alone, as the prime is above 2 N.
func (g group) degree(weights []int) int {
	sum := 0
	for i, w := range weights {
		sum += w * weights[g.inverses[i]] % g.field.P * g.field.Inverse(g.sizes[i])
	}
	sum = g.field.Mod(sum)
	degree := 1
	for degree < g.things && g.field.Mod(degree*degree*sum-g.things) != 0 {
		degree++
	}
	return degree
}
