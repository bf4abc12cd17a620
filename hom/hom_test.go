package hom_test

import (
	"fmt"
	"slices"
	"testing"

	"cayley/api"
	"cayley/coset"
	"cayley/hom"
	"cayley/sub"
	"cayley/table"
)

func TestExamples(t *testing.T) {
	all, _ := hom.All(given(t, table.Cyclic, 4), given(t, table.Cyclic, 2))
	same(t, "Cyclic(4) into Cyclic(2)", all, "[[0 0 0 0] [0 1 0 1]]")
	autos, _ := hom.Autos(given(t, table.Cyclic, 8))
	same(t, "Cyclic(8)", autos, "[[0 1 2 3 4 5 6 7] [0 3 6 1 4 7 2 5] [0 5 2 7 4 1 6 3] [0 7 6 5 4 3 2 1]]")
	square := given(t, table.Dihedral, 4)
	autos, _ = hom.Autos(square)
	same(t, "Dihedral(4)", len(autos), 8)
	inner, _ := hom.Inner(square)
	same(t, "Dihedral(4), inner", inner, "[[0 1 2 3 4 5 6 7] [0 1 2 3 6 7 4 5] [0 3 2 1 4 7 6 5] [0 3 2 1 6 5 4 7]]")
}

// TestAll: each homomorphism once, rising, between all small groups, by two ways to call their things.
func TestAll(t *testing.T) {
	some := few(t)
	for i, g := range some {
		for k, h := range some {
			if (i+k)%2 == 1 {
				g, h = strewn(g), shuffled(h)
			}
			want := homs(g, h)
			same(t, fmt.Sprint(g.N, " into ", h.N), told(hom.All(g, h)), right(want))
			same(t, "they rise", slices.IsSortedFunc(want, slices.Compare), true)
		}
	}
}

// TestAllOfMore: between groups of up to 24 things; ErrMuch just where there are more than 1000.
func TestAllOfMore(t *testing.T) {
	some := slices.DeleteFunc(append(many(t), sixteen(t)...), func(g api.Group) bool { return g.N > api.MaxSmall })
	some = append(some, given(t, table.Dihedral, 3), given(t, table.Dihedral, 4), given(t, table.Dihedral, 2))
	much := 0
	for i, g := range some {
		for k, h := range some {
			if (i+k)%2 == 1 {
				g, h = shuffled(g), strewn(h)
			}
			want := right(homs(g, h))
			if n := len(homs(g, h)); n > api.MaxList {
				want = refused(fault(api.ErrMuch, 0))
				much++
			}
			same(t, fmt.Sprint(g.N, " into ", h.N), told(hom.All(g, h)), want)
		}
	}
	same(t, "some are too many", much > 0, true)
}

// TestKernelAndImage: they are what they say, a normal subgroup and a subgroup; multiplied, they are N.
func TestKernelAndImage(t *testing.T) {
	some := few(t)
	for i, g := range some {
		for k, h := range some {
			if (i+k)%2 == 1 {
				g, h = strewn(g), shuffled(h)
			}
			all := homs(g, h)
			for at := 0; at < len(all); at += 1 + len(all)/20 {
				m := all[at]
				same(t, "Check", hom.Check(g, h, m), api.Fault{})
				kernel, f := hom.Kernel(g, h, m)
				same(t, "fault", f, api.Fault{})
				same(t, "Kernel", kernel, slices.DeleteFunc(allOf(g), func(a int) bool { return m[a] != oneIn(h) }))
				image, f := hom.Image(g, h, m)
				same(t, "fault", f, api.Fault{})
				same(t, "Image", image, slices.Compact(slices.Sorted(slices.Values(m))))
				follows(t, g, h, kernel, image)
			}
		}
	}
}

func follows(t *testing.T, g, h api.Group, kernel, image []int) {
	t.Helper()
	normal, f := sub.Normal(g, kernel)
	same(t, "a Kernel is normal", fmt.Sprint(normal, f), fmt.Sprint(true, api.Fault{}))
	is, f := sub.Is(h, image)
	same(t, "an Image is a subgroup", fmt.Sprint(is, f), fmt.Sprint(true, api.Fault{}))
	same(t, "Kernel times Image", len(kernel)*len(image), g.N)
}

// TestCheckOfMore: homomorphisms of up to 60 things, and with each entry changed.
func TestCheckOfMore(t *testing.T) {
	for _, g := range many(t) {
		for _, a := range []int{0, g.N / 2, g.N - 1} {
			m := make([]int, g.N)
			for x := range m {
				m[x] = conjugateIn(g, x, a)
			}
			same(t, "Check", hom.Check(g, g, m), api.Fault{})
			same(t, "Kernel", told(hom.Kernel(g, g, m)), right([]int{oneIn(g)}))
			same(t, "Image", told(hom.Image(g, g, m)), right(allOf(g)))
			for i := 0; i < g.N; i += 1 + g.N/9 {
				changed := slices.Clone(m)
				changed[i] = (changed[i] + 1) % g.N
				same(t, fmt.Sprint("Check at ", i), hom.Check(g, g, changed), fault(api.ErrFalse, firstStray(g, g, changed)))
			}
		}
	}
}

// TestExtendFromParts: each homomorphism is found from any things that make the group.
func TestExtendFromParts(t *testing.T) {
	some := few(t)
	for i, g := range some {
		for k, h := range some {
			if (i+k)%3 == 1 {
				g, h = strewn(g), shuffled(h)
			}
			all := homs(g, h)
			for at := 0; at < len(all); at += 1 + len(all)/8 {
				for _, from := range makersOf(g) {
					to := make([]int, len(from))
					for i, a := range from {
						to[i] = all[at][a]
					}
					same(t, fmt.Sprint("Extend ", from, to), told(hom.Extend(g, h, from, to)), right(all[at]))
				}
			}
		}
	}
}

// makersOf are some lists that make g, not all of them rising.
func makersOf(g api.Group) [][]int {
	back := allOf(g)
	slices.Reverse(back)
	out := [][]int{allOf(g), back}
	for a := range g.N {
		for b := range g.N {
			for _, l := range [][]int{{a}, {b, a}, {b, a, b}, {(a + 2*b) % g.N, b, a}} {
				if len(l) <= g.N && len(grown(g, l)) == g.N && (a+b)%3 < 2 {
					out = append(out, l)
				}
			}
		}
	}
	return out
}

// TestExtendToAllPairs: what stands for two makers extends just where a homomorphism has it.
func TestExtendToAllPairs(t *testing.T) {
	for _, h := range few(t) {
		for _, c := range []struct {
			g    api.Group
			from []int
		}{
			{given(t, table.Dihedral, 4), []int{5, 1}}, {given(t, table.Dicyclic, 2), []int{1, 4}},
			{given(t, table.Cyclic, 6), []int{3, 2}}, {shuffled(given(t, table.Dihedral, 3)), []int{3, 0}},
		} {
			all := homs(c.g, h)
			for pair := range h.N * h.N {
				to := []int{pair / h.N, pair % h.N}
				want := refused(fault(api.ErrNone, 0))
				if at := slices.IndexFunc(all, func(m []int) bool { return leads(m, c.from, to) }); at >= 0 {
					want = right(all[at])
				}
				same(t, fmt.Sprint("Extend ", c.from, to), told(hom.Extend(c.g, h, c.from, to)), want)
			}
		}
	}
}

// TestIso: each group is the same as itself by other names, and as no other one.
func TestIso(t *testing.T) {
	for _, some := range [][]api.Group{few(t), sixteen(t), many(t)} {
		for i, g := range some {
			for k, h := range some {
				for _, h := range []api.Group{h, shuffled(h), strewn(h)} {
					m, f := hom.Iso(strewn(g), h)
					if i != k {
						same(t, fmt.Sprint("Iso of ", g.N, " into ", h.N), told(m, f), refused(fault(api.ErrNone, 0)))
						continue
					}
					same(t, "fault", f, api.Fault{})
					if !isIso(strewn(g), h, m) {
						t.Errorf("Iso of %d things: %v", g.N, m)
					}
				}
			}
		}
	}
}

// TestIsoOfOtherMakers: groups that are the same, but made otherwise.
func TestIsoOfOtherMakers(t *testing.T) {
	two, three, five, six := given(t, table.Cyclic, 2), given(t, table.Cyclic, 3), given(t, table.Cyclic, 5), given(t, table.Dihedral, 3)
	for i, pair := range [][]api.Group{
		{given(t, table.Cyclic, 30), times(t, five, three, two)},
		{given(t, table.Dihedral, 6), times(t, six, two)},
		{six, perms(t, []int{1, 0, 2}, []int{1, 2, 0})},
		{given(t, table.Dihedral, 2), times(t, two, two)},
		{given(t, table.Dicyclic, 1), given(t, table.Cyclic, 4)},
		{given(t, table.Dicyclic, 3), turned(3, 4, 2)},
		{given(t, table.Dihedral, 1), two},
		{given(t, table.Dihedral, 30), times(t, two, given(t, table.Dihedral, 15))},
		{turned(7, 3, 2), turned(7, 3, 4)},
		{times(t, two, two, two, two, two), times(t, given(t, table.Dihedral, 2), two, given(t, table.Dihedral, 2))},
	} {
		for _, g := range []api.Group{pair[0], shuffled(pair[0])} {
			m, f := hom.Iso(g, pair[1])
			same(t, fmt.Sprint("pair ", i), fmt.Sprint(isIso(g, pair[1], m), f), fmt.Sprint(true, api.Fault{}))
			m, f = hom.Iso(pair[1], g)
			same(t, fmt.Sprint("pair ", i, ", turned"), fmt.Sprint(isIso(pair[1], g, m), f), fmt.Sprint(true, api.Fault{}))
		}
	}
}

// TestIsoWithTheSameOrders: these differ, though they have as many things of each order.
func TestIsoWithTheSameOrders(t *testing.T) {
	two, three, four := given(t, table.Cyclic, 2), given(t, table.Cyclic, 3), given(t, table.Cyclic, 4)
	for _, pair := range [][]api.Group{
		{turned(4, 4, 3), times(t, two, given(t, table.Dicyclic, 2))},
		{turned(8, 2, 5), times(t, two, given(t, table.Cyclic, 8))},
		{times(t, two, turned(4, 4, 3)), times(t, two, two, given(t, table.Dicyclic, 2))},
		{times(t, three, turned(4, 4, 3)), times(t, two, three, given(t, table.Dicyclic, 2))},
		{turned(9, 3, 4), times(t, given(t, table.Cyclic, 9), three)},
		{times(t, turned(8, 2, 5), two), times(t, two, two, given(t, table.Cyclic, 8))},
		{times(t, four, four), turned(4, 4, 3)},
	} {
		first, _ := table.Orders(pair[0])
		second, _ := table.Orders(pair[1])
		slices.Sort(first)
		slices.Sort(second)
		same(t, "orders", first, second)
		same(t, "Iso", told(hom.Iso(pair[0], strewn(pair[1]))), refused(fault(api.ErrNone, 0)))
		same(t, "Iso, turned", told(hom.Iso(shuffled(pair[1]), pair[0])), refused(fault(api.ErrNone, 0)))
	}
}

// TestAutos: each automorphism once, rising, of all small groups, and of more where brute force ends.
func TestAutos(t *testing.T) {
	two, three := given(t, table.Cyclic, 2), given(t, table.Cyclic, 3)
	some := append(few(t), given(t, table.Cyclic, 24), given(t, table.Dihedral, 12), given(t, table.Dicyclic, 6), turned(5, 4, 2),
		times(t, three, two, two), times(t, two, given(t, table.Dihedral, 3)))
	for _, g := range some {
		for _, g := range []api.Group{g, strewn(g)} {
			same(t, fmt.Sprint("of ", g.N), told(hom.Autos(g)), right(isos(g, g)))
		}
	}
}

// TestHowManyAutos: as many as is known of these.
func TestHowManyAutos(t *testing.T) {
	two, three, four := given(t, table.Cyclic, 2), given(t, table.Cyclic, 3), given(t, table.Cyclic, 4)
	for _, c := range []struct {
		g    api.Group
		want int
	}{
		{given(t, table.Cyclic, 1), 1}, {given(t, table.Cyclic, 23), 22}, {given(t, table.Cyclic, 24), 8},
		{times(t, two, two), 6}, {times(t, two, two, two), 168}, {times(t, two, two, two, three), 336},
		{times(t, three, three), 48}, {times(t, four, four), 96}, {times(t, two, two, four), 192},
		{given(t, table.Dicyclic, 2), 24}, {times(t, two, given(t, table.Dicyclic, 2)), 192}, {times(t, two, given(t, table.Dihedral, 4)), 64},
		{perms(t, []int{1, 2, 0, 3}, []int{1, 0, 3, 2}), 24}, {perms(t, []int{1, 0, 2, 3}, []int{1, 2, 3, 0}), 24},
		{given(t, table.Dihedral, 12), 48}, {given(t, table.Dihedral, 11), 110}, {turned(7, 3, 2), 42},
	} {
		for _, g := range []api.Group{c.g, shuffled(c.g), strewn(c.g)} {
			autos, f := hom.Autos(g)
			same(t, "fault", f, api.Fault{})
			same(t, fmt.Sprint("of ", g.N), len(autos), c.want)
			for i, m := range autos {
				if !isIso(g, g, m) || i > 0 && slices.Compare(autos[i-1], m) >= 0 {
					t.Errorf("Autos of %d things has %v at %d", g.N, m, i)
				}
			}
		}
	}
}

// TestInner: each once, rising; as many as the centre has cosets; and automorphisms.
func TestInner(t *testing.T) {
	for _, g := range slices.Concat(few(t), sixteen(t), many(t)) {
		for _, g := range []api.Group{g, shuffled(g), strewn(g)} {
			var want [][]int
			for a := range g.N {
				m := make([]int, g.N)
				for x := range m {
					m[x] = conjugateIn(g, x, a)
				}
				if !slices.ContainsFunc(want, func(other []int) bool { return slices.Equal(other, m) }) {
					want = append(want, m)
				}
			}
			slices.SortFunc(want, slices.Compare)
			same(t, fmt.Sprint("Inner of ", g.N), told(hom.Inner(g)), right(want))
			centre, _ := sub.Centre(g)
			cosets, _ := coset.Right(g, centre)
			same(t, "as many as the centre has cosets", len(want), len(cosets))
			for _, m := range want {
				same(t, "automorphism", isIso(g, g, m), true)
			}
		}
	}
}

// TestAnswersAreNew: what is done to an answer touches neither what was handed in nor another list of it.
func TestAnswersAreNew(t *testing.T) {
	for _, g := range []api.Group{given(t, table.Cyclic, 1), given(t, table.Cyclic, 5), given(t, table.Dihedral, 4), shuffled(given(t, table.Dicyclic, 3))} {
		m := allOf(g)
		before := fmt.Sprint(g, m)
		one := func(l []int, f api.Fault) ([][]int, api.Fault) { return [][]int{l}, f }
		for name, call := range map[string]func() ([][]int, api.Fault){
			"Kernel": func() ([][]int, api.Fault) { return one(hom.Kernel(g, g, m)) },
			"Image":  func() ([][]int, api.Fault) { return one(hom.Image(g, g, m)) },
			"Extend": func() ([][]int, api.Fault) { return one(hom.Extend(g, g, m, m)) },
			"Iso":    func() ([][]int, api.Fault) { return one(hom.Iso(g, g)) },
			"All":    func() ([][]int, api.Fault) { return hom.All(g, g) },
			"Autos":  func() ([][]int, api.Fault) { return hom.Autos(g) },
			"Inner":  func() ([][]int, api.Fault) { return hom.Inner(g) },
		} {
			answers, f := call()
			same(t, "fault", f, api.Fault{})
			first := fmt.Sprint(answers)
			for i, list := range answers {
				behind := fmt.Sprint(answers[i+1:])
				for k := range list[:cap(list)] {
					list[:cap(list)][k] = -9
				}
				same(t, name+" apart", answers[i+1:], behind)
			}
			again, _ := call()
			if name != "Iso" {
				same(t, name+" again", again, first)
			}
			same(t, name+" handed in", fmt.Sprint(g, m), before)
		}
	}
}
