package hom

import (
	"iter"
	"slices"

	"cayley/api"
	"cayley/known"
	"cayley/set"
	"cayley/table"
)

const none = -1 // where nothing stands yet for a thing

// pair has a group, and the one into which it is led.
type pair struct{ from, into known.Group }

// opened is g and h as a pair, and what is wrong with them.
func opened(g, h api.Group) (pair, api.Fault) {
	from, f := known.Open(g)
	if f.Code != api.OK {
		return pair{}, f
	}
	into, f := known.Open(h)
	if f.Code != api.OK {
		return pair{}, f
	}
	return pair{from, into}, api.Fault{}
}

// strays: is there a b so that what stands for a b is not the product?
func (p pair) strays(m []int, a int) bool {
	for b := range p.from.N {
		if m[p.from.Product(a, b)] != p.into.Product(m[a], m[b]) {
			return true
		}
	}
	return false
}

// kernel has the things for which the one stands.
func (p pair) kernel(m []int) set.Set {
	return p.from.Those(func(a int) bool { return m[a] == p.into.One })
}

// extended is the homomorphism of what makers make in which images stand for
// them, with none for all other things; and whether there is one. It is enough
// to ask what stands for a product with a maker, as all things that are made
// are such products, one behind the other.
func (p pair) extended(makers, images []int) ([]int, bool) {
	m := slices.Repeat([]int{none}, p.from.N)
	m[p.from.One] = p.into.One
	found := make([]int, 1, p.from.N)
	found[0] = p.from.One
	for at := 0; at < len(found); at++ { // found grows meanwhile
		a := found[at]
		for i, maker := range makers {
			c, image := p.from.Product(a, maker), p.into.Product(m[a], images[i])
			if m[c] == none {
				m[c] = image
				found = append(found, c)
			}
			if m[c] != image {
				return nil, false
			}
		}
	}
	return m, true
}

// all yields each homomorphism once. What stands for the makers, which make
// the whole group, is tried from the least on, one maker after the other; it
// goes on only where what is extended so far fits.
func (p pair) all(makers []int, fits func(m []int) bool) iter.Seq[[]int] {
	return func(yield func(m []int) bool) {
		images := make([]int, 0, len(makers))
		var goOn func() bool
		goOn = func() bool {
			m, is := p.extended(makers[:len(images)], images)
			if !is || !fits(m) {
				return true
			}
			if len(images) == len(makers) {
				return yield(m)
			}
			images = append(images, 0)
			for b := range p.into.N {
				images[len(images)-1] = b
				if !goOn() {
					return false
				}
			}
			images = images[:len(images)-1]
			return true
		}
		goOn()
	}
}

// single yields each homomorphism once that has no thing of the other group
// twice.
func (p pair) single(makers []int) iter.Seq[[]int] {
	alone := set.Of(p.from.One)
	return p.all(makers, func(m []int) bool { return p.kernel(m) == alone })
}

// leastMakers make the group, each one the least that those ahead do not make.
// What stands for a thing between them hangs on what stands ahead of it: so by
// them homomorphisms are yielded rising.
func leastMakers(g known.Group) []int {
	var makers []int
	for made := g.Made(0); made != g.All(); made = g.Made(set.Of(makers...)) {
		makers = append(makers, (g.All() &^ made).List()[0])
	}
	return makers
}

// fewMakers make the group, each one so that with those ahead it makes as much
// as can be: with few of them there is less to try.
func fewMakers(g known.Group) []int {
	var makers []int
	for made := g.Made(0); made != g.All(); {
		best, most := 0, made
		for a := range g.N {
			if with := g.Made(set.Of(makers...) | set.Of(a)); with.Len() > most.Len() {
				best, most = a, with
			}
		}
		makers, made = append(makers, best), most
	}
	return makers
}

// sameOrders: have both groups as many things of each order? If not, there is
// nothing to look for.
func sameOrders(g, h api.Group) bool {
	here, _ := table.Orders(g)
	there, _ := table.Orders(h)
	slices.Sort(here)
	slices.Sort(there)
	return slices.Equal(here, there)
}
