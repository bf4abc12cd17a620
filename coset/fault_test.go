package coset_test

import (
	"fmt"
	"math"
	"slices"
	"testing"

	"cayley/api"
	"cayley/coset"
	"cayley/table"
)

// wrongGroups have the fault that all calls must tell of each.
func wrongGroups() []struct {
	g    api.Group
	want api.Fault
} {
	nought := make([]int, 3600)
	return []struct {
		g    api.Group
		want api.Fault
	}{
		{api.Group{}, fault(api.ErrMany, 0)},
		{api.Group{N: -1, Mul: []int{0}}, fault(api.ErrMany, 0)},
		{api.Group{N: 61, Mul: make([]int, 3721)}, fault(api.ErrMany, 0)},
		{api.Group{N: math.MaxInt}, fault(api.ErrMany, 0)},
		{api.Group{N: math.MinInt}, fault(api.ErrMany, 0)},
		{api.Group{N: 1}, fault(api.ErrSize, 0)},
		{api.Group{N: 2, Mul: []int{0, 1, 1, 0, 0}}, fault(api.ErrSize, 0)},
		{api.Group{N: 2, Mul: []int{0, 1, 1, 2}}, fault(api.ErrRange, 3)},
		{api.Group{N: 2, Mul: []int{0, math.MinInt, 1, 0}}, fault(api.ErrRange, 1)},
		{api.Group{N: 2, Mul: []int{0, 0, 0, 0}}, fault(api.ErrNone, 0)},
		{api.Group{N: 60, Mul: nought}, fault(api.ErrNone, 0)},
		{api.Group{N: 3, Mul: []int{0, 1, 2, 1, 0, 0, 2, 0, 0}}, fault(api.ErrFalse, 1)},
		{api.Group{N: 2, Mul: []int{0, 1, 1, 1}}, fault(api.ErrKind, 1)},
		{api.Group{N: 2, Mul: []int{0, 0, 0, 1}}, fault(api.ErrKind, 0)},
	}
}

func TestFaultsOfGroupsComeFirst(t *testing.T) {
	for _, wrong := range wrongGroups() {
		for name, call := range ofSubgroup() {
			for _, l := range [][]int{nil, {0}, {1, 0}, {-1}, {99}, make([]int, 100)} {
				same(t, fmt.Sprint(name, l), call(wrong.g, l), refused(wrong.want))
			}
		}
	}
}

// wrongLists have the fault that is told of each as a subgroup of Dihedral(4).
func wrongLists() []struct {
	l    []int
	want api.Fault
} {
	return []struct {
		l    []int
		want api.Fault
	}{
		{[]int{0, 1, 2, 3, 4, 5, 6, 7, 8}, fault(api.ErrMany, 0)},
		{[]int{-1, 9, 9, 9, 9, 9, 9, 9, 9}, fault(api.ErrMany, 0)},
		{make([]int, 1<<20), fault(api.ErrMany, 0)},
		{[]int{-1}, fault(api.ErrRange, 0)},
		{[]int{8}, fault(api.ErrRange, 0)},
		{[]int{0, 1, 2, 3, 4, 5, 6, 8}, fault(api.ErrRange, 7)},
		{[]int{math.MaxInt}, fault(api.ErrRange, 0)},
		{[]int{0, math.MinInt}, fault(api.ErrRange, 1)},
		{[]int{0, 64}, fault(api.ErrRange, 1)},
		{[]int{4, 99, 2}, fault(api.ErrRange, 1)},
		{[]int{4, 2, 99}, fault(api.ErrForm, 1)},
		{[]int{0, 0}, fault(api.ErrForm, 1)},
		{[]int{2, 0}, fault(api.ErrForm, 1)}, // a subgroup, if it rose
		{[]int{0, 4, 4}, fault(api.ErrForm, 2)},
		{[]int{0, 1, 2, 3, 4, 5, 7, 6}, fault(api.ErrForm, 7)},
		{nil, fault(api.ErrFalse, 0)},
		{[]int{}, fault(api.ErrFalse, 0)},
		{[]int{2}, fault(api.ErrFalse, 0)},
		{[]int{0, 1}, fault(api.ErrFalse, 0)},
		{[]int{1, 2, 3}, fault(api.ErrFalse, 0)},
		{[]int{0, 4, 5}, fault(api.ErrFalse, 0)},
		{[]int{0, 1, 2, 3, 4}, fault(api.ErrFalse, 0)},
	}
}

func TestFaultsOfSubgroups(t *testing.T) {
	g := given(t, table.Dihedral, 4)
	for _, c := range wrongLists() {
		for name, call := range ofSubgroup() {
			same(t, fmt.Sprint(name, c.l[:min(9, len(c.l))]), call(g, c.l), refused(c.want))
		}
	}
}

// TestFaultsOfTwoSubgroups: all of the first one's come ahead of the second one's.
func TestFaultsOfTwoSubgroups(t *testing.T) {
	g := given(t, table.Dihedral, 4)
	for _, first := range wrongLists() {
		for _, second := range wrongLists() {
			same(t, "both wrong", told(coset.Double(g, first.l, second.l)), refused(first.want))
		}
	}
	for _, second := range wrongLists() {
		for _, l := range subgroups(g) {
			same(t, "second wrong", told(coset.Double(g, l, second.l)), refused(second.want))
			same(t, "first wrong", told(coset.Double(g, second.l, l)), refused(second.want))
		}
	}
}

// wanted is what must be told of a list as a subgroup, word by word.
func wanted(g api.Group, l []int) api.Fault {
	if len(l) > g.N {
		return fault(api.ErrMany, 0)
	}
	for i := range l {
		if l[i] < 0 || l[i] > g.N-1 {
			return fault(api.ErrRange, i)
		}
		if i > 0 && !(l[i] > l[i-1]) {
			return fault(api.ErrForm, i)
		}
	}
	if !isSubgroup(g, l) {
		return fault(api.ErrFalse, 0)
	}
	return api.Fault{}
}

// everyList hands over all lists of up to length numbers from low to high.
func everyList(length, low, high int, hand func(l []int)) {
	var from func(l []int)
	from = func(l []int) {
		hand(slices.Clone(l))
		if len(l) == length {
			return
		}
		for x := low; x <= high; x++ {
			from(append(slices.Clone(l), x))
		}
	}
	from(nil)
}

// TestEveryListOfSmallGroups: no call may panic, and each has the fault that is the first.
func TestEveryListOfSmallGroups(t *testing.T) {
	for _, g := range bothWays([]api.Group{given(t, table.Cyclic, 1), given(t, table.Cyclic, 2), given(t, table.Cyclic, 3)}) {
		everyList(g.N+1, -1, g.N, func(l []int) {
			want := wanted(g, l)
			for name, call := range ofSubgroup() {
				got := call(g, l)
				same(t, fmt.Sprint(name, l), got.f, want)
				same(t, fmt.Sprint(name, l, " is empty"), got.text == "[]", want.Code != api.OK)
			}
		})
	}
}

// TestOnlyRead: neither what is handed in changes, nor what lies behind it, and that is not read.
func TestOnlyRead(t *testing.T) {
	for _, g := range groups(t) {
		for _, l := range [][]int{nil, {oneIn(g)}, grown(g, []int{g.N - 1}), allOf(g)} {
			table := append(slices.Clone(g.Mul), 1, 2)
			list := append(slices.Clone(l), 0, 1)
			lent := api.Group{N: g.N, Mul: table[:len(g.Mul)]}
			for name, call := range ofSubgroup() {
				first := call(lent, list[:len(l)])
				table[len(g.Mul)], list[len(l)] = -7, -7
				same(t, name+" reads behind", call(lent, list[:len(l)]), first)
				same(t, name+" changed the group", table, append(slices.Clone(g.Mul), -7, 2))
				same(t, name+" changed the set", list, append(slices.Clone(l), -7, 1))
				table[len(g.Mul)], list[len(l)] = 1, 0
			}
		}
	}
}
