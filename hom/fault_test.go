package hom_test

import (
	"fmt"
	"math"
	"slices"
	"testing"

	"cayley/api"
	"cayley/hom"
	"cayley/table"
)

// wrongGroups have the fault that all calls must tell of each.
func wrongGroups() []struct {
	g    api.Group
	want api.Fault
} {
	nought := make([]int, 3600)
	return []struct {
		g    api.Group
		want api.Fault
	}{
		{api.Group{}, fault(api.ErrMany, 0)},
		{api.Group{N: -1, Mul: []int{0}}, fault(api.ErrMany, 0)},
		{api.Group{N: 61, Mul: make([]int, 3721)}, fault(api.ErrMany, 0)},
		{api.Group{N: math.MaxInt}, fault(api.ErrMany, 0)},
		{api.Group{N: math.MinInt}, fault(api.ErrMany, 0)},
		{api.Group{N: 1}, fault(api.ErrSize, 0)},
		{api.Group{N: 2, Mul: []int{0, 1, 1, 0, 0}}, fault(api.ErrSize, 0)},
		{api.Group{N: 2, Mul: []int{0, 1, 1, 2}}, fault(api.ErrRange, 3)},
		{api.Group{N: 2, Mul: []int{0, math.MinInt, 1, 0}}, fault(api.ErrRange, 1)},
		{api.Group{N: 2, Mul: []int{0, 0, 0, 0}}, fault(api.ErrNone, 0)},
		{api.Group{N: 60, Mul: nought}, fault(api.ErrNone, 0)},
		{api.Group{N: 3, Mul: []int{0, 1, 2, 1, 0, 0, 2, 0, 0}}, fault(api.ErrFalse, 1)},
		{api.Group{N: 2, Mul: []int{0, 1, 1, 1}}, fault(api.ErrKind, 1)},
		{api.Group{N: 2, Mul: []int{0, 0, 0, 1}}, fault(api.ErrKind, 0)},
	}
}

// TestFaultsOfGroupsComeFirst: the first group's first, and ahead of all that may be wrong beside them.
func TestFaultsOfGroupsComeFirst(t *testing.T) {
	rightOnes := []api.Group{given(t, table.Cyclic, 1), given(t, table.Dihedral, 3), given(t, table.Cyclic, 60)}
	for _, wrong := range wrongGroups() {
		for name, call := range ofOne() {
			same(t, name, call(wrong.g), refused(wrong.want))
		}
		for name, call := range ofTwo() {
			for _, m := range [][]int{nil, {0}, {1, 0}, {-1}, {99}, make([]int, 100)} {
				for _, g := range rightOnes {
					same(t, fmt.Sprint(name, m, " g wrong"), call(wrong.g, g, m), refused(wrong.want))
					same(t, fmt.Sprint(name, m, " h wrong"), call(g, wrong.g, m), refused(wrong.want))
				}
				for _, second := range wrongGroups() {
					same(t, fmt.Sprint(name, m, " both wrong"), call(wrong.g, second.g, m), refused(wrong.want))
				}
			}
		}
	}
}

// TestFaultsOfMaps: of Dihedral(3) into Cyclic(4).
func TestFaultsOfMaps(t *testing.T) {
	g, h := given(t, table.Dihedral, 3), given(t, table.Cyclic, 4)
	cases := []struct {
		m    []int
		want api.Fault
	}{
		{nil, fault(api.ErrSize, 0)},
		{[]int{0, 0, 0, 0}, fault(api.ErrSize, 0)},
		{[]int{9, 9, 9, 9, 9}, fault(api.ErrSize, 0)},
		{[]int{0, 0, 0, 2, 2, 2, 2}, fault(api.ErrSize, 0)},
		{make([]int, 1<<20), fault(api.ErrSize, 0)},
		{[]int{-1, 0, 0, 0, 0, 4}, fault(api.ErrRange, 0)},
		{[]int{0, 0, 0, 2, 2, 4}, fault(api.ErrRange, 5)},
		{[]int{0, 0, 0, math.MaxInt, math.MinInt, 2}, fault(api.ErrRange, 3)},
		{[]int{1, 0, 0, 5, 0, 0}, fault(api.ErrRange, 3)}, // it is not so, either
		{[]int{0, 0, 0, 64, 2, 2}, fault(api.ErrRange, 3)},
		{[]int{1, 0, 0, 2, 2, 2}, fault(api.ErrFalse, 0)}, // the one is moved
		{[]int{0, 1, 2, 2, 2, 2}, fault(api.ErrFalse, 1)},
		{[]int{0, 0, 0, 0, 0, 2}, fault(api.ErrFalse, 1)},
		{[]int{0, 0, 0, 1, 1, 1}, fault(api.ErrFalse, 3)}, // turns are led aright
		{[]int{0, 0, 0, 3, 3, 3}, fault(api.ErrFalse, 3)},
		{[]int{0, 0, 0, 2, 2, 2}, fault(api.OK, 0)},
		{[]int{0, 0, 0, 0, 0, 0}, fault(api.OK, 0)},
	}
	for _, c := range cases {
		for name, call := range ofMap() {
			got := call(g, h, c.m)
			same(t, fmt.Sprint(name, c.m[:min(9, len(c.m))]), got.f, c.want)
			if c.want.Code != api.OK {
				same(t, name+" is empty", got.text, "[]")
			}
		}
	}
}

// wantedOfMap is what must be told of m, word by word.
func wantedOfMap(g, h api.Group, m []int) api.Fault {
	if len(m) != g.N {
		return fault(api.ErrSize, 0)
	}
	for i := range m {
		if m[i] < 0 || m[i] > h.N-1 {
			return fault(api.ErrRange, i)
		}
	}
	if a := firstStray(g, h, m); a >= 0 {
		return fault(api.ErrFalse, a)
	}
	return api.Fault{}
}

// wantedOfExtend is what must be told of from and to, word by word.
func wantedOfExtend(g, h api.Group, all [][]int, from, to []int) api.Fault {
	if len(from) != len(to) || len(from) > g.N {
		return fault(api.ErrSize, 0)
	}
	for i := range from {
		if from[i] < 0 || from[i] > g.N-1 || to[i] < 0 || to[i] > h.N-1 {
			return fault(api.ErrRange, i)
		}
	}
	if len(grown(g, from)) < g.N {
		return fault(api.ErrKind, 0)
	}
	if !slices.ContainsFunc(all, func(m []int) bool { return leads(m, from, to) }) {
		return fault(api.ErrNone, 0)
	}
	return api.Fault{}
}

// leads: does to stand in m for from?
func leads(m, from, to []int) bool {
	for i := range from {
		if m[from[i]] != to[i] {
			return false
		}
	}
	return true
}

// everyList has all lists of up to length numbers from low to high.
func everyList(length, low, high int) [][]int {
	out := [][]int{nil}
	for at := 0; at < len(out); at++ {
		for x := low; x <= high && len(out[at]) < length; x++ {
			out = append(out, append(slices.Clone(out[at]), x))
		}
	}
	return out
}

// small are groups of up to 4 things, also with a one that is not 0.
func small(t *testing.T) []api.Group {
	t.Helper()
	var out []api.Group
	for n := 1; n <= 3; n++ {
		g := given(t, table.Cyclic, n)
		out = append(out, g, shuffled(g))
	}
	return append(out, given(t, table.Dihedral, 2))
}

// TestEveryMapOfSmallGroups: no call may panic, and each has the fault that is the first.
func TestEveryMapOfSmallGroups(t *testing.T) {
	for _, g := range small(t) {
		for _, h := range small(t) {
			for _, m := range everyList(g.N+1, -1, h.N) {
				want := wantedOfMap(g, h, m)
				for name, call := range ofMap() {
					got := call(g, h, m)
					same(t, fmt.Sprint(name, m), got.f, want)
					if want.Code != api.OK {
						same(t, fmt.Sprint(name, m, " is empty"), got.text, "[]")
					}
				}
			}
		}
	}
}

// TestEveryExtendOfSmallGroups: with all lists of up to two numbers on either side, and some longer ones.
func TestEveryExtendOfSmallGroups(t *testing.T) {
	for _, g := range small(t) {
		for _, h := range small(t) {
			all := homs(g, h)
			froms, tos := everyList(2, -1, g.N), everyList(2, -1, h.N)
			for length := 3; length <= 5; length++ {
				froms = append(froms, slices.Repeat([]int{g.N - 1}, length), slices.Repeat([]int{0}, length), slices.Repeat([]int{g.N}, length))
				tos = append(tos, slices.Repeat([]int{h.N - 1}, length), slices.Repeat([]int{0}, length), slices.Repeat([]int{-1}, length))
			}
			for _, from := range froms {
				for _, to := range tos {
					m, f := hom.Extend(g, h, from, to)
					same(t, fmt.Sprint("Extend ", from, to), f, wantedOfExtend(g, h, all, from, to))
					if f.Code == api.OK && !(isHom(g, h, m) && leads(m, from, to)) || f.Code != api.OK && len(m) > 0 {
						t.Errorf("Extend %v %v: %v", from, to, m)
					}
				}
			}
		}
	}
}

// TestFaultsOfExtend, in their order: of Dihedral(4) into Cyclic(4).
func TestFaultsOfExtend(t *testing.T) {
	g, h := given(t, table.Dihedral, 4), given(t, table.Cyclic, 4)
	cases := []struct {
		from, to []int
		want     api.Fault
	}{
		{[]int{1, 4}, []int{0}, fault(api.ErrSize, 0)},
		{[]int{1, 4}, nil, fault(api.ErrSize, 0)},
		{nil, []int{1}, fault(api.ErrSize, 0)},
		{[]int{-1}, []int{9, 9}, fault(api.ErrSize, 0)},
		{make([]int, 9), make([]int, 9), fault(api.ErrSize, 0)},
		{[]int{1, 4, 1, 4, 1, 4, 1, 4, 1}, []int{0, 2, 0, 2, 0, 2, 0, 2, 0}, fault(api.ErrSize, 0)},
		{make([]int, 1<<20), make([]int, 1<<20), fault(api.ErrSize, 0)},
		{[]int{8}, []int{0}, fault(api.ErrRange, 0)},
		{[]int{0}, []int{4}, fault(api.ErrRange, 0)}, // a thing of g, but not of h
		{[]int{1, 4, 99}, []int{0, -1, 0}, fault(api.ErrRange, 1)},
		{[]int{1, 99, 4}, []int{0, 0, -1}, fault(api.ErrRange, 1)},
		{[]int{1, 4, math.MinInt}, []int{0, 2, math.MaxInt}, fault(api.ErrRange, 2)},
		{[]int{64}, []int{0}, fault(api.ErrRange, 0)},
		{nil, nil, fault(api.ErrKind, 0)},
		{[]int{1}, []int{0}, fault(api.ErrKind, 0)},
		{[]int{2, 4}, []int{0, 2}, fault(api.ErrKind, 0)},
		{[]int{2, 2}, []int{0, 1}, fault(api.ErrKind, 0)}, // there is none, either
		{[]int{1, 4}, []int{1, 0}, fault(api.ErrNone, 0)},
		{[]int{1, 4}, []int{0, 1}, fault(api.ErrNone, 0)},
		{[]int{1, 4, 4}, []int{0, 2, 0}, fault(api.ErrNone, 0)}, // two things for one
		{[]int{0, 1, 4}, []int{2, 0, 2}, fault(api.ErrNone, 0)}, // the one is moved
	}
	for _, c := range cases {
		same(t, fmt.Sprint("Extend ", c.from[:min(9, len(c.from))]), told(hom.Extend(g, h, c.from, c.to)), refused(c.want))
	}
	for _, c := range [][]int{{1, 4, 1, 4, 1, 4, 1, 4}, {1, 4, 4}, {4, 1}, {0, 1, 2, 3, 4, 5, 6, 7}} {
		to := make([]int, len(c))
		for i, a := range c {
			to[i] = a / 4 * 2
		}
		same(t, fmt.Sprint("Extend ", c), told(hom.Extend(g, h, c, to)), right("[0 0 0 0 2 2 2 2]"))
	}
}

// TestLimits: 24 things are not too many for All and Autos, 25 are; the other calls take 60.
func TestLimits(t *testing.T) {
	small, large, most := given(t, table.Cyclic, 24), given(t, table.Cyclic, 25), given(t, table.Cyclic, 60)
	one := given(t, table.Cyclic, 1)
	tooMany := refused(fault(api.ErrMany, 0))
	for _, g := range []api.Group{large, most} {
		same(t, "All of g", told(hom.All(g, one)), tooMany)
		same(t, "All into h", told(hom.All(one, g)), tooMany)
		same(t, "All of both", told(hom.All(g, g)), tooMany)
		same(t, "Autos", told(hom.Autos(g)), tooMany)
	}
	all, f := hom.All(small, small)
	same(t, "All of 24", fmt.Sprint(len(all), f), fmt.Sprint(24, api.Fault{}))
	autos, f := hom.Autos(small)
	same(t, "Autos of 24", fmt.Sprint(len(autos), f), fmt.Sprint(8, api.Fault{}))
	same(t, "Inner of 60", told(hom.Inner(most)), right([][]int{allOf(most)}))
	iso, f := hom.Iso(most, shuffled(most))
	same(t, "Iso of 60", fmt.Sprint(isIso(most, shuffled(most), iso), f), fmt.Sprint(true, api.Fault{}))
	kernel, f := hom.Kernel(most, one, make([]int, 60))
	same(t, "Kernel of 60", told(kernel, f), right(allOf(most)))
	same(t, "Image of 60", told(hom.Image(most, most, allOf(most))), right(allOf(most)))
	same(t, "Extend of 60", told(hom.Extend(most, most, []int{59}, []int{59})), right(allOf(most)))
}

// TestTooMuch: more than 1000 homomorphisms, or automorphisms.
func TestTooMuch(t *testing.T) {
	two, four := given(t, table.Cyclic, 2), given(t, table.Cyclic, 4)
	eight, square := times(t, two, two, two), given(t, table.Dihedral, 4)
	sixteen := times(t, eight, two)
	tooMuch := refused(fault(api.ErrMuch, 0))
	for _, h := range []api.Group{sixteen, shuffled(sixteen)} {
		same(t, "All, 4096", told(hom.All(eight, h)), tooMuch)
		same(t, "All, 65536", told(hom.All(h, h)), tooMuch)
		same(t, "Autos, 20160", told(hom.Autos(h)), tooMuch)
	}
	same(t, "All, 1024", told(hom.All(times(t, two, two, four), times(t, two, two, four))), tooMuch)
	all, f := hom.All(eight, times(t, two, square))
	same(t, "All, 960", fmt.Sprint(len(all), f), fmt.Sprint(960, api.Fault{}))
}

// TestOnlyRead: neither what is handed in changes, nor what lies behind it, and that is not read.
func TestOnlyRead(t *testing.T) {
	pairs := [][]api.Group{
		{given(t, table.Dihedral, 4), given(t, table.Dihedral, 4)},
		{shuffled(given(t, table.Dihedral, 3)), shuffled(given(t, table.Dihedral, 3))},
		{given(t, table.Cyclic, 6), given(t, table.Cyclic, 4)},
		{given(t, table.Cyclic, 1), given(t, table.Cyclic, 2)},
	}
	for _, pair := range pairs {
		g, h := pair[0], pair[1]
		for _, m := range append([][]int{nil, {0}, {7, 7}}, homs(g, h)...) {
			first, second := append(slices.Clone(g.Mul), 1, 2), append(slices.Clone(h.Mul), 3, 4)
			list := append(slices.Clone(m), 0, 1)
			lentG, lentH := api.Group{N: g.N, Mul: first[:len(g.Mul)]}, api.Group{N: h.N, Mul: second[:len(h.Mul)]}
			before := fmt.Sprint(first[:len(g.Mul)], second[:len(h.Mul)], list[:len(m)])
			for name, call := range ofTwo() {
				was := call(lentG, lentH, list[:len(m)])
				first[len(g.Mul)], second[len(h.Mul)], list[len(m)] = -7, -7, -7
				if got := call(lentG, lentH, list[:len(m)]); name != "Iso" {
					same(t, name+" reads behind", got, was)
				}
				same(t, name+" writes behind", []int{first[len(g.Mul)], second[len(h.Mul)], list[len(m)]}, "[-7 -7 -7]")
				same(t, name+" changes", fmt.Sprint(first[:len(g.Mul)], second[:len(h.Mul)], list[:len(m)]), before)
				first[len(g.Mul)], second[len(h.Mul)], list[len(m)] = 1, 3, 0
			}
			for name, call := range ofOne() {
				was := call(lentG)
				first[len(g.Mul)] = -7
				same(t, name+" reads behind", call(lentG), was)
				same(t, name+" changes", fmt.Sprint(first[:len(g.Mul)], second[:len(h.Mul)], list[:len(m)]), before)
				same(t, name+" writes behind", first[len(g.Mul)], -7)
				first[len(g.Mul)] = 1
			}
		}
	}
}
