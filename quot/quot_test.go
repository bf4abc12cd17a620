package quot_test

import (
	"fmt"
	"slices"
	"testing"

	"cayley/api"
	"cayley/hom"
	"cayley/quot"
	"cayley/sub"
	"cayley/table"
)

func TestExamples(t *testing.T) {
	q, onto, f := quot.Quotient(given(t, table.Dihedral, 4), []int{0, 2})
	same(t, "Dihedral(4) by 0, 2", toldBoth(q, onto, f),
		answer{g: api.Group{N: 4, Mul: []int{0, 1, 2, 3, 1, 0, 3, 2, 2, 3, 0, 1, 3, 2, 1, 0}}, l: []int{0, 1, 0, 1, 2, 3, 2, 3}})
	for a := range q.N {
		same(t, "its own inverse", of(q, a, a), oneIn(q))
	}
}

func TestAnswersThatAreKnown(t *testing.T) {
	one, square := api.Group{N: 1, Mul: []int{0}}, given(t, table.Dihedral, 4)
	same(t, "one by itself", toldBoth(quot.Quotient(one, []int{0})), answer{g: one, l: []int{0}})
	same(t, "one as a part", toldGroup(quot.Part(one, []int{0})), answer{g: one})
	same(t, "one is not simple", toldIs(quot.Simple(one)), answer{})
	same(t, "Abel of one", toldBoth(quot.Abel(one)), answer{g: one, l: []int{0}})

	turned := api.Group{N: 2, Mul: []int{1, 0, 0, 1}} // the one is 1
	same(t, "by the one", toldBoth(quot.Quotient(turned, []int{1})), answer{g: turned, l: []int{0, 1}})
	same(t, "the one alone", toldGroup(quot.Part(turned, []int{1})), answer{g: one})
	same(t, "two are simple", toldIs(quot.Simple(turned)), answer{is: true})

	same(t, "by the turns", toldBoth(quot.Quotient(square, []int{0, 1, 2, 3})),
		answer{g: api.Group{N: 2, Mul: []int{0, 1, 1, 0}}, l: []int{0, 0, 0, 0, 1, 1, 1, 1}})
	same(t, "part", toldGroup(quot.Part(square, []int{0, 2, 5, 7})),
		answer{g: api.Group{N: 4, Mul: []int{0, 1, 2, 3, 1, 0, 3, 2, 2, 3, 0, 1, 3, 2, 1, 0}}})
	same(t, "Abel", toldBoth(quot.Abel(square)), toldBoth(quot.Quotient(square, []int{0, 2})))
	same(t, "cosets stand by their least things", toldBoth(quot.Quotient(given(t, table.Cyclic, 6), []int{0, 3})),
		answer{g: api.Group{N: 3, Mul: []int{0, 1, 2, 1, 2, 0, 2, 0, 1}}, l: []int{0, 1, 2, 0, 1, 2}})
}

// TestQuotient: its things are the numbers of the cosets, and each product is
// that of any two things of theirs; ErrKind just where l is not normal.
func TestQuotient(t *testing.T) {
	kept, notNormal := 0, 0
	for _, g := range all(t) {
		for _, l := range some(subgroups(g), 30) {
			if !isNormal(g, l) {
				same(t, fmt.Sprint("not normal ", l), toldBoth(quot.Quotient(g, l)), refused(fault(api.ErrKind, 0)))
				notNormal++
				continue
			}
			q, onto, f := quot.Quotient(g, l)
			same(t, "fault", f, api.Fault{})
			cosets := cosetsOf(g, l)
			same(t, "how many", fmt.Sprint(q.N, len(q.Mul), len(onto)), fmt.Sprint(len(cosets), len(cosets)*len(cosets), g.N))
			same(t, "a group", table.Check(q), api.Fault{})
			for i, c := range cosets {
				for _, a := range c {
					same(t, fmt.Sprint("coset of ", a), onto[a], i)
				}
			}
			same(t, fmt.Sprint("products by ", l), isHom(g, q, onto), true)
			kept++
		}
	}
	same(t, "some of both kinds", kept > 100 && notNormal > 100, true)
}

// TestPart: the product of two things is that of those that they stand for.
func TestPart(t *testing.T) {
	for _, g := range all(t) {
		for _, l := range some(subgroups(g), 30) {
			h, f := quot.Part(g, l)
			same(t, "fault", f, api.Fault{})
			same(t, "how many", fmt.Sprint(h.N, len(h.Mul)), fmt.Sprint(len(l), len(l)*len(l)))
			same(t, "a group", table.Check(h), api.Fault{})
			same(t, fmt.Sprint("products in ", l), isHom(h, g, l), true)
		}
		same(t, "all of it", toldGroup(quot.Part(g, allOf(g))), answer{g: g})
	}
}

// TestSimple: held against all normal subgroups, found one by one.
func TestSimple(t *testing.T) {
	for _, g := range all(t) {
		want := g.N > 1 && len(normals(g)) == 2
		same(t, fmt.Sprint("Simple of ", g.N), toldIs(quot.Simple(g)), answer{is: want})
	}
}

// TestSimpleOfMore: groups of a prime number of things, and the even
// permutations of five points; no other ones of up to 60 things.
func TestSimpleOfMore(t *testing.T) {
	for n := 1; n <= api.MaxGroup; n++ {
		prime := n > 1
		for d := 2; d < n; d++ {
			prime = prime && n%d > 0
		}
		g := given(t, table.Cyclic, n)
		same(t, fmt.Sprint("Cyclic ", n), toldIs(quot.Simple(g)), answer{is: prime})
		same(t, fmt.Sprint("Cyclic, strewn ", n), toldIs(quot.Simple(strewn(g))), answer{is: prime})
		if n <= api.MaxGroup/2 {
			same(t, fmt.Sprint("Dihedral ", n), toldIs(quot.Simple(shuffled(given(t, table.Dihedral, n)))), answer{is: n == 1})
		}
		if n <= api.MaxGroup/4 {
			same(t, fmt.Sprint("Dicyclic ", n), toldIs(quot.Simple(given(t, table.Dicyclic, n))), answer{})
		}
	}
	for _, g := range []api.Group{evenOfFive(t), shuffled(evenOfFive(t)), strewn(evenOfFive(t))} {
		same(t, "even ones of five", toldIs(quot.Simple(g)), answer{is: true})
	}
}

// TestAbel: the quotient by what all commutators make; all things of it commute.
func TestAbel(t *testing.T) {
	for _, g := range all(t) {
		q, onto, f := quot.Abel(g)
		same(t, "Abel", toldBoth(q, onto, f), toldBoth(quot.Quotient(g, commutatorsOf(g))))
		same(t, "fault", f, api.Fault{})
		same(t, "how many", q.N, g.N/len(commutatorsOf(g)))
		same(t, "all commute", commute(q), true)
		if commute(g) {
			same(t, "nothing is lost", toldBoth(q, onto, f), answer{g: g, l: allOf(g)})
		}
	}
	even, onto, f := quot.Abel(evenOfFive(t))
	same(t, "even ones of five", toldBoth(even, onto, f), answer{g: api.Group{N: 1, Mul: []int{0}}, l: make([]int, 60)})
}

// through is the list in which for each number of which there is one what m has
// for each thing of that number; it ends the test where two differ.
func through(t *testing.T, m, number []int, many int) []int {
	t.Helper()
	out := slices.Repeat([]int{-1}, many)
	for a, i := range number {
		if out[i] >= 0 && out[i] != m[a] {
			t.Fatalf("%v does not go through %v", m, number)
		}
		out[i] = m[a]
	}
	return out
}

// placesIn has of each thing of m its place in l.
func placesIn(l, m []int) []int {
	var out []int
	for _, a := range m {
		out = append(out, slices.Index(l, a))
	}
	return out
}

// TestImageIsQuotientByKernel (Noether's first theorem).
func TestImageIsQuotientByKernel(t *testing.T) {
	groups := few(t)
	for i, g := range groups {
		for k, h := range groups {
			if (i+k)%2 == 1 {
				g, h = strewn(g), shuffled(h)
			}
			homs, f := hom.All(g, h)
			same(t, "fault", f, api.Fault{})
			for _, m := range some(homs, 12) {
				kernel, _ := hom.Kernel(g, h, m)
				image, _ := hom.Image(g, h, m)
				q, onto, f := quot.Quotient(g, kernel)
				same(t, "fault", f, api.Fault{})
				part, f := quot.Part(h, image)
				same(t, "fault", f, api.Fault{})
				same(t, fmt.Sprint("by the kernel of ", m), isIso(q, part, through(t, placesIn(image, m), onto, q.N)), true)
				_, f = hom.Iso(q, part)
				same(t, "Iso", f, api.Fault{})
			}
		}
	}
}

// TestSubgroupByWhatBothHave (Noether's second theorem): what h and the normal
// l make, by l, is h by what both have.
func TestSubgroupByWhatBothHave(t *testing.T) {
	for _, g := range all(t) {
		subgroups := some(subgroups(g), 6)
		for _, l := range some(normals(g), 6) {
			for _, h := range subgroups {
				whole := grown(g, append(slices.Clone(l), h...))
				first := quotientOfPart(t, g, whole, l)
				second := quotientOfPart(t, g, h, both(h, l))
				inWhole := make([]int, len(h)) // of each thing of h its coset in the first
				for i, a := range h {
					inWhole[i] = first.l[slices.Index(whole, a)]
				}
				m := through(t, inWhole, second.l, second.g.N)
				same(t, fmt.Sprint(h, " and ", l), isIso(second.g, first.g, m), true)
			}
		}
	}
}

// quotientOfPart is the subgroup h as a group, by l, which is in it.
func quotientOfPart(t *testing.T, g api.Group, h, l []int) answer {
	t.Helper()
	part, f := quot.Part(g, h)
	same(t, "fault", f, api.Fault{})
	out := toldBoth(quot.Quotient(part, placesIn(h, l)))
	same(t, "fault", out.f, api.Fault{})
	return out
}

// TestQuotientOfQuotient (Noether's third theorem): g by l, by m's cosets, is g by m.
func TestQuotientOfQuotient(t *testing.T) {
	for _, g := range all(t) {
		all := some(normals(g), 8)
		for _, l := range all {
			for _, m := range all {
				if len(both(l, m)) < len(l) {
					continue
				}
				byL, ontoL, _ := quot.Quotient(g, l)
				byM, ontoM, _ := quot.Quotient(g, m)
				var cosets []int
				for _, a := range m {
					cosets = append(cosets, ontoL[a])
				}
				twice, onto, f := quot.Quotient(byL, risen(cosets))
				same(t, "fault", f, api.Fault{})
				both := make([]int, g.N)
				for a := range both {
					both[a] = onto[ontoL[a]]
				}
				same(t, fmt.Sprint("by ", l, " and ", m), isIso(byM, twice, through(t, both, ontoM, byM.N)), true)
			}
		}
	}
}

// TestAllGoThroughAbel: homomorphisms into groups in which all things commute
// are those of Abel, one for one.
func TestAllGoThroughAbel(t *testing.T) {
	for i, g := range append(few(t), many(t)...) {
		if g.N > api.MaxSmall {
			continue
		}
		for k, h := range few(t) {
			if !commute(h) {
				continue
			}
			if (i+k)%2 == 1 {
				g, h = shuffled(g), strewn(h)
			}
			q, onto, f := quot.Abel(g)
			same(t, "fault", f, api.Fault{})
			homs, f := hom.All(g, h)
			if f.Code == api.ErrMuch { // there would be more of them than a list may have
				continue
			}
			same(t, "fault", f, api.Fault{})
			short, f := hom.All(q, h)
			same(t, "fault", f, api.Fault{})
			var of [][]int
			for _, m := range homs {
				of = append(of, through(t, m, onto, q.N))
			}
			slices.SortFunc(of, slices.Compare)
			same(t, fmt.Sprint(g.N, " into ", h.N), of, short)
		}
	}
}

// TestLeastQuotientThatCommutes: a quotient commutes just where all commutators are in l.
func TestLeastQuotientThatCommutes(t *testing.T) {
	for _, g := range all(t) {
		commutators, _ := sub.Comm(g, allOf(g), allOf(g))
		for _, l := range some(normals(g), 12) {
			q, _, _ := quot.Quotient(g, l)
			same(t, fmt.Sprint("by ", l), commute(q), len(both(commutators, l)) == len(commutators))
		}
	}
}

// TestAnswersAreNew: what is done to an answer touches neither what was handed
// in nor another list of it, nor later answers.
func TestAnswersAreNew(t *testing.T) {
	for _, g := range []api.Group{given(t, table.Dihedral, 4), shuffled(given(t, table.Cyclic, 6)), given(t, table.Cyclic, 1), evenOfFive(t)} {
		for _, l := range [][]int{{oneIn(g)}, allOf(g)} {
			before := fmt.Sprint(g, l)
			for name, call := range map[string]func() answer{
				"Quotient": func() answer { return toldBoth(quot.Quotient(g, l)) },
				"Part":     func() answer { return toldGroup(quot.Part(g, l)) },
				"Abel":     func() answer { return toldBoth(quot.Abel(g)) },
			} {
				got := call()
				first, list := fmt.Sprint(got), fmt.Sprint(got.l)
				for i := range got.g.Mul[:cap(got.g.Mul)] {
					got.g.Mul[:cap(got.g.Mul)][i] = -9
				}
				same(t, name+" apart", got.l, list)
				for i := range got.l[:cap(got.l)] {
					got.l[:cap(got.l)][i] = -9
				}
				same(t, name+" handed in", fmt.Sprint(g, l), before)
				same(t, name+" again", call(), first)
			}
		}
	}
}
