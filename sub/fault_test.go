package sub_test

import (
	"fmt"
	"maps"
	"math"
	"slices"
	"testing"

	"cayley/api"
	"cayley/sub"
	"cayley/table"
)

// wrongGroups have the fault that all calls must tell of each.
func wrongGroups() []struct {
	g    api.Group
	want api.Fault
} {
	nought := make([]int, 3600)
	return []struct {
		g    api.Group
		want api.Fault
	}{
		{api.Group{}, fault(api.ErrMany, 0)},
		{api.Group{N: -1, Mul: []int{0}}, fault(api.ErrMany, 0)},
		{api.Group{N: 61, Mul: make([]int, 3721)}, fault(api.ErrMany, 0)},
		{api.Group{N: math.MaxInt}, fault(api.ErrMany, 0)},
		{api.Group{N: math.MinInt}, fault(api.ErrMany, 0)},
		{api.Group{N: 1}, fault(api.ErrSize, 0)},
		{api.Group{N: 2, Mul: []int{0, 1, 1, 0, 0}}, fault(api.ErrSize, 0)},
		{api.Group{N: 25, Mul: nought[:624]}, fault(api.ErrSize, 0)}, // ahead of ErrMany of more than MaxSmall things
		{api.Group{N: 2, Mul: []int{0, 1, 1, 2}}, fault(api.ErrRange, 3)},
		{api.Group{N: 2, Mul: []int{0, math.MinInt, 1, 0}}, fault(api.ErrRange, 1)},
		{api.Group{N: 2, Mul: []int{0, 0, 0, 0}}, fault(api.ErrNone, 0)},
		{api.Group{N: 60, Mul: nought}, fault(api.ErrNone, 0)},
		{api.Group{N: 3, Mul: []int{0, 1, 2, 1, 0, 0, 2, 0, 0}}, fault(api.ErrFalse, 1)},
		{api.Group{N: 2, Mul: []int{0, 1, 1, 1}}, fault(api.ErrKind, 1)},
		{api.Group{N: 2, Mul: []int{0, 0, 0, 1}}, fault(api.ErrKind, 0)},
	}
}

// everyCall has those of ofSet and of ofSubgroup.
func everyCall() map[string]func(g api.Group, l []int) answer {
	calls := ofSet()
	maps.Copy(calls, ofSubgroup())
	return calls
}

func TestFaultsOfGroupsComeFirst(t *testing.T) {
	for _, wrong := range wrongGroups() {
		for name, call := range ofGroup() {
			same(t, fmt.Sprint(name, wrong.want), call(wrong.g), answer{emptyOf(name), wrong.want})
		}
		for name, call := range everyCall() {
			for _, l := range [][]int{nil, {0}, {1, 0}, {-1}, {99}, make([]int, 100)} {
				same(t, fmt.Sprint(name, l), call(wrong.g, l), answer{emptyOf(name), wrong.want})
			}
		}
	}
}

// TestFaultsOfSets: a set's faults in their order, and ErrFalse nowhere ahead of them.
func TestFaultsOfSets(t *testing.T) {
	cases := []struct {
		l    []int
		want api.Fault
	}{
		{[]int{0, 1, 2, 3, 4, 5, 6, 7, 8}, fault(api.ErrMany, 0)},
		{[]int{-1, 9, 9, 9, 9, 9, 9, 9, 9}, fault(api.ErrMany, 0)},
		{make([]int, 9), fault(api.ErrMany, 0)},
		{make([]int, 1<<20), fault(api.ErrMany, 0)},
		{[]int{-1}, fault(api.ErrRange, 0)},
		{[]int{8}, fault(api.ErrRange, 0)},
		{[]int{0, 2, 8}, fault(api.ErrRange, 2)},
		{[]int{0, 1, 2, 3, 4, 5, 6, 8}, fault(api.ErrRange, 7)},
		{[]int{math.MaxInt}, fault(api.ErrRange, 0)},
		{[]int{0, math.MinInt}, fault(api.ErrRange, 1)},
		{[]int{3, -1}, fault(api.ErrRange, 1)}, // not above the one ahead either
		{[]int{0, 64}, fault(api.ErrRange, 1)},
		{[]int{4, 99, 2}, fault(api.ErrRange, 1)},
		{[]int{4, 2, 99}, fault(api.ErrForm, 1)},
		{[]int{4, 4}, fault(api.ErrForm, 1)},
		{[]int{0, 0}, fault(api.ErrForm, 1)},
		{[]int{2, 0}, fault(api.ErrForm, 1)},
		{[]int{0, 2, 1}, fault(api.ErrForm, 2)},
		{make([]int, 8), fault(api.ErrForm, 1)},
		{[]int{0, 1, 2, 3, 4, 5, 7, 6}, fault(api.ErrForm, 7)},
	}
	g := given(t, table.Dihedral, 4)
	for _, c := range cases {
		for name, call := range everyCall() {
			same(t, fmt.Sprint(name, c.l[:min(9, len(c.l))]), call(g, c.l), answer{emptyOf(name), c.want})
		}
	}
}

// wantedOfSet is what must be told of a list, word by word.
func wantedOfSet(n int, l []int) api.Fault {
	if len(l) > n {
		return fault(api.ErrMany, 0)
	}
	for i := range l {
		if l[i] < 0 || l[i] > n-1 {
			return fault(api.ErrRange, i)
		}
		if i > 0 && !(l[i] > l[i-1]) {
			return fault(api.ErrForm, i)
		}
	}
	return api.Fault{}
}

// everyList hands over all lists of up to length numbers from low to high.
func everyList(length, low, high int, hand func(l []int)) {
	var from func(l []int)
	from = func(l []int) {
		hand(slices.Clone(l))
		if len(l) == length {
			return
		}
		for x := low; x <= high; x++ {
			from(append(slices.Clone(l), x))
		}
	}
	from(nil)
}

// TestEveryListOfSmallGroups: no call may panic, and each has the fault that is the first.
func TestEveryListOfSmallGroups(t *testing.T) {
	for _, g := range bothWays([]api.Group{given(t, table.Cyclic, 1), given(t, table.Cyclic, 2), given(t, table.Cyclic, 3)}) {
		everyList(4, -1, g.N, func(l []int) {
			want := wantedOfSet(g.N, l)
			for name, call := range ofSet() {
				got := call(g, l)
				same(t, fmt.Sprint(name, l), got.f, want)
				if want.Code != api.OK {
					same(t, fmt.Sprint(name, l), got.text, emptyOf(name))
				}
			}
			if want.Code == api.OK && !isSubgroup(g, l) {
				want = fault(api.ErrFalse, 0)
			}
			for name, call := range ofSubgroup() {
				got := call(g, l)
				same(t, fmt.Sprint(name, l), got.f, want)
				if want.Code != api.OK {
					same(t, fmt.Sprint(name, l), got.text, emptyOf(name))
				}
			}
		})
	}
}

func TestSetsThatAreNoSubgroups(t *testing.T) {
	for _, g := range append(smallGroups(t), greatGroups(t)...) {
		for _, l := range someSets(g) {
			is := isSubgroup(g, l)
			same(t, fmt.Sprint("Is ", l), told(sub.Is(g, l)), right(is))
			for name, call := range ofSubgroup() {
				got := call(g, l)
				if is {
					same(t, fmt.Sprint(name, l), got.f, api.Fault{})
				} else {
					same(t, fmt.Sprint(name, l), got, answer{emptyOf(name), fault(api.ErrFalse, 0)})
				}
			}
			for name, call := range ofSet() {
				same(t, fmt.Sprint(name, l), call(g, l).f, api.Fault{})
			}
		}
	}
}

func TestFaultsOfTwoSets(t *testing.T) {
	g := given(t, table.Dihedral, 4)
	many := make([]int, 9)
	cases := []struct {
		l, m []int
		want api.Fault
	}{
		{[]int{8}, []int{2, 1}, fault(api.ErrRange, 0)},
		{[]int{2, 1}, []int{8}, fault(api.ErrForm, 1)},
		{[]int{0, 1, 1}, many, fault(api.ErrForm, 2)},
		{many, []int{8}, fault(api.ErrMany, 0)},
		{[]int{3}, many, fault(api.ErrMany, 0)},
		{[]int{3}, []int{0, 8}, fault(api.ErrRange, 1)},
		{[]int{3}, []int{0, 1, 0}, fault(api.ErrForm, 2)},
		{nil, []int{-1}, fault(api.ErrRange, 0)},
	}
	for _, c := range cases {
		same(t, fmt.Sprint(c.l, c.m), told(sub.Comm(g, c.l, c.m)), answer{"[]", c.want})
	}
	same(t, "group first", told(sub.Comm(api.Group{N: 1}, many, many)), answer{"[]", fault(api.ErrSize, 0)})
}

// TestGroupsThatAreNotSmall: All and Frattini end at MaxSmall things, the others do not.
func TestGroupsThatAreNotSmall(t *testing.T) {
	for n := 1; n <= 60; n++ {
		g := given(t, table.Cyclic, n)
		want := api.Fault{}
		if n > 24 {
			want = fault(api.ErrMany, 0)
		}
		for _, name := range []string{"All", "Frattini"} {
			got := ofGroup()[name](g)
			same(t, fmt.Sprint(name, n), got.f, want)
			same(t, fmt.Sprint(name, n, " is empty"), got.text == "[]", n > 24)
		}
		same(t, "Centre", ofGroup()["Centre"](g).f, api.Fault{})
	}
}

// TestOnlyRead: neither what is handed in changes, nor what lies behind it, and that is not read.
func TestOnlyRead(t *testing.T) {
	for _, g := range append(smallGroups(t), greatGroups(t)...) {
		all := those(g, func(a int) bool { return true })
		for _, l := range [][]int{nil, {oneIn(g)}, grown(g, []int{g.N - 1}), all} {
			table := append(slices.Clone(g.Mul), 1, 2)
			list := append(slices.Clone(l), 0, 1)
			lent := api.Group{N: g.N, Mul: table[:len(g.Mul)]}
			for name, call := range everyCall() {
				first := call(lent, list[:len(l)])
				table[len(g.Mul)], list[len(l)] = -7, -7
				same(t, name+" reads behind", call(lent, list[:len(l)]), first)
				same(t, name+" changed the group", table, append(slices.Clone(g.Mul), -7, 2))
				same(t, name+" changed the set", list, append(slices.Clone(l), -7, 1))
				table[len(g.Mul)], list[len(l)] = 1, 0
			}
			for name, call := range ofGroup() {
				first := call(lent)
				table[len(g.Mul)] = -7
				same(t, name+" reads behind", call(lent), first)
				same(t, name+" changed the group", table, append(slices.Clone(g.Mul), -7, 2))
				table[len(g.Mul)] = 1
			}
		}
	}
}
