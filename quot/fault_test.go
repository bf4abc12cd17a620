package quot_test

import (
	"fmt"
	"math"
	"slices"
	"testing"

	"cayley/api"
	"cayley/table"
)

// wrongGroups have the fault that all calls must tell of each.
func wrongGroups() []struct {
	g    api.Group
	want api.Fault
} {
	nought := make([]int, 3600)
	return []struct {
		g    api.Group
		want api.Fault
	}{
		{api.Group{}, fault(api.ErrMany, 0)},
		{api.Group{N: -1, Mul: []int{0}}, fault(api.ErrMany, 0)},
		{api.Group{N: 61, Mul: make([]int, 3721)}, fault(api.ErrMany, 0)},
		{api.Group{N: math.MaxInt}, fault(api.ErrMany, 0)},
		{api.Group{N: math.MinInt}, fault(api.ErrMany, 0)},
		{api.Group{N: 1}, fault(api.ErrSize, 0)},
		{api.Group{N: 2, Mul: []int{0, 1, 1, 0, 0}}, fault(api.ErrSize, 0)},
		{api.Group{N: 2, Mul: []int{0, 1, 1, 2}}, fault(api.ErrRange, 3)},
		{api.Group{N: 2, Mul: []int{0, math.MinInt, 1, 0}}, fault(api.ErrRange, 1)},
		{api.Group{N: 2, Mul: []int{0, 0, 0, 0}}, fault(api.ErrNone, 0)},
		{api.Group{N: 60, Mul: nought}, fault(api.ErrNone, 0)},
		{api.Group{N: 3, Mul: []int{0, 1, 2, 1, 0, 0, 2, 0, 0}}, fault(api.ErrFalse, 1)},
		{api.Group{N: 2, Mul: []int{0, 1, 1, 1}}, fault(api.ErrKind, 1)},
		{api.Group{N: 2, Mul: []int{0, 0, 0, 1}}, fault(api.ErrKind, 0)},
	}
}

func TestFaultsOfGroupsComeFirst(t *testing.T) {
	for _, wrong := range wrongGroups() {
		for name, call := range ofGroup() {
			same(t, name, call(wrong.g), refused(wrong.want))
		}
		for name, call := range ofSubgroup() {
			for _, l := range [][]int{nil, {0}, {1, 0}, {-1}, {99}, make([]int, 100)} {
				same(t, fmt.Sprint(name, l), call(wrong.g, l), refused(wrong.want))
			}
		}
	}
}

// TestFaultsOfSubgroups, in their order: of Dihedral(4).
func TestFaultsOfSubgroups(t *testing.T) {
	g := given(t, table.Dihedral, 4)
	for _, c := range []struct {
		l    []int
		want api.Fault
	}{
		{[]int{0, 1, 2, 3, 4, 5, 6, 7, 8}, fault(api.ErrMany, 0)},
		{[]int{-1, 9, 9, 9, 9, 9, 9, 9, 9}, fault(api.ErrMany, 0)},
		{make([]int, 1<<20), fault(api.ErrMany, 0)},
		{[]int{-1}, fault(api.ErrRange, 0)},
		{[]int{8}, fault(api.ErrRange, 0)},
		{[]int{0, 1, 2, 3, 4, 5, 6, 8}, fault(api.ErrRange, 7)},
		{[]int{math.MaxInt}, fault(api.ErrRange, 0)},
		{[]int{0, math.MinInt}, fault(api.ErrRange, 1)},
		{[]int{0, 64}, fault(api.ErrRange, 1)},
		{[]int{4, 99, 2}, fault(api.ErrRange, 1)},
		{[]int{4, 2, 99}, fault(api.ErrForm, 1)},
		{[]int{0, 0}, fault(api.ErrForm, 1)},
		{[]int{2, 0}, fault(api.ErrForm, 1)}, // a normal subgroup, if it rose
		{[]int{0, 4, 4}, fault(api.ErrForm, 2)},
		{[]int{0, 1, 2, 3, 4, 5, 7, 6}, fault(api.ErrForm, 7)},
		{nil, fault(api.ErrFalse, 0)},
		{[]int{}, fault(api.ErrFalse, 0)},
		{[]int{2}, fault(api.ErrFalse, 0)},
		{[]int{0, 1}, fault(api.ErrFalse, 0)}, // it is not so when conjugated, either
		{[]int{1, 2, 3}, fault(api.ErrFalse, 0)},
		{[]int{0, 1, 3}, fault(api.ErrFalse, 0)}, // conjugated it is always the same
		{[]int{0, 4, 5}, fault(api.ErrFalse, 0)},
		{[]int{0, 1, 2, 3, 4}, fault(api.ErrFalse, 0)},
	} {
		for name, call := range ofSubgroup() {
			same(t, fmt.Sprint(name, c.l[:min(9, len(c.l))]), call(g, c.l), refused(c.want))
		}
	}
}

// TestFaultOfSubgroupsThatAreNotNormal: Quotient tells it, Part takes them.
func TestFaultOfSubgroupsThatAreNotNormal(t *testing.T) {
	g := given(t, table.Dihedral, 4)
	for _, l := range [][]int{{0, 4}, {0, 5}, {0, 6}, {0, 7}} {
		same(t, fmt.Sprint("Quotient ", l), ofSubgroup()["Quotient"](g, l), refused(fault(api.ErrKind, 0)))
		same(t, fmt.Sprint("Part ", l), ofSubgroup()["Part"](g, l), answer{g: api.Group{N: 2, Mul: []int{0, 1, 1, 0}}})
	}
}

// wanted is what must be told of a list as a subgroup, word by word.
func wanted(g api.Group, l []int) api.Fault {
	if len(l) > g.N {
		return fault(api.ErrMany, 0)
	}
	for i := range l {
		if l[i] < 0 || l[i] > g.N-1 {
			return fault(api.ErrRange, i)
		}
		if i > 0 && !(l[i] > l[i-1]) {
			return fault(api.ErrForm, i)
		}
	}
	if !isSubgroup(g, l) {
		return fault(api.ErrFalse, 0)
	}
	return api.Fault{}
}

// everyList has all lists of up to length numbers from low to high.
func everyList(length, low, high int) [][]int {
	out := [][]int{nil}
	for at := 0; at < len(out); at++ {
		for x := low; x <= high && len(out[at]) < length; x++ {
			out = append(out, append(slices.Clone(out[at]), x))
		}
	}
	return out
}

// everySet has all lists that rise, of things of a group.
func everySet(n int) [][]int {
	var out [][]int
	for bits := range 1 << n {
		var l []int
		for a := range n {
			if bits>>a&1 == 1 {
				l = append(l, a)
			}
		}
		out = append(out, l)
	}
	return out
}

// TestEveryListOfSmallGroups: no call may panic, and each has the fault that is the first.
func TestEveryListOfSmallGroups(t *testing.T) {
	for n := 1; n <= 3; n++ {
		g := given(t, table.Cyclic, n)
		faultsOfLists(t, g, everyList(n+1, -1, n))
		faultsOfLists(t, shuffled(g), everyList(n+1, -1, n))
	}
	six := given(t, table.Dihedral, 3)
	for _, g := range []api.Group{six, shuffled(six), strewn(six), given(t, table.Dihedral, 4), given(t, table.Dicyclic, 2)} {
		faultsOfLists(t, g, everySet(g.N))
	}
}

// faultsOfLists holds what is told of each list against what must be told.
func faultsOfLists(t *testing.T, g api.Group, lists [][]int) {
	t.Helper()
	for _, l := range lists {
		for name, call := range ofSubgroup() {
			want := wanted(g, l)
			if name == "Quotient" && want.Code == api.OK && !isNormal(g, l) {
				want = fault(api.ErrKind, 0)
			}
			got := call(g, l)
			same(t, fmt.Sprint(name, l), got.f, want)
			same(t, fmt.Sprint(name, l, " is empty"), got.g.N == 0 && len(got.g.Mul) == 0, want.Code != api.OK)
			same(t, fmt.Sprint(name, l, " has a list"), len(got.l) > 0, name == "Quotient" && want.Code == api.OK)
		}
	}
}

// TestOnlyRead: neither what is handed in changes, nor what lies behind it, and that is not read.
func TestOnlyRead(t *testing.T) {
	for _, g := range []api.Group{given(t, table.Dihedral, 4), shuffled(given(t, table.Dihedral, 3)), given(t, table.Cyclic, 1), evenOfFive(t)} {
		mul := append(slices.Clone(g.Mul), 1, 2)
		lent := api.Group{N: g.N, Mul: mul[:len(g.Mul)]}
		for name, call := range ofGroup() {
			first := call(lent)
			mul[len(g.Mul)] = -7
			same(t, name+" reads behind", call(lent), first)
			same(t, name+" changed the group", mul, append(slices.Clone(g.Mul), -7, 2))
			mul[len(g.Mul)] = 1
		}
		for _, l := range [][]int{nil, {oneIn(g)}, grown(g, []int{g.N - 1}), allOf(g)} {
			list := append(slices.Clone(l), 0, 1)
			for name, call := range ofSubgroup() {
				first := call(lent, list[:len(l)])
				mul[len(g.Mul)], list[len(l)] = -7, -7
				same(t, name+" reads behind", call(lent, list[:len(l)]), first)
				same(t, name+" changed the group", mul, append(slices.Clone(g.Mul), -7, 2))
				same(t, name+" changed the set", list, append(slices.Clone(l), -7, 1))
				mul[len(g.Mul)], list[len(l)] = 1, 0
			}
		}
	}
}
