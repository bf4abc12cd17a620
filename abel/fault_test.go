package abel_test

import (
	"fmt"
	"math"
	"slices"
	"testing"

	"cayley/api"
	"cayley/table"
)

// wrongGroups have the fault that all calls must tell of each.
func wrongGroups() []struct {
	g    api.Group
	want api.Fault
} {
	nought := make([]int, 3600)
	return []struct {
		g    api.Group
		want api.Fault
	}{
		{api.Group{}, fault(api.ErrMany, 0)},
		{api.Group{N: -1, Mul: []int{0}}, fault(api.ErrMany, 0)},
		{api.Group{N: 61, Mul: make([]int, 3721)}, fault(api.ErrMany, 0)},
		{api.Group{N: math.MaxInt}, fault(api.ErrMany, 0)},
		{api.Group{N: math.MinInt}, fault(api.ErrMany, 0)},
		{api.Group{N: 1}, fault(api.ErrSize, 0)},
		{api.Group{N: 2, Mul: []int{0, 1, 1, 0, 0}}, fault(api.ErrSize, 0)},
		{api.Group{N: 2, Mul: []int{0, 1, 1, 2}}, fault(api.ErrRange, 3)},
		{api.Group{N: 2, Mul: []int{0, math.MinInt, 1, 0}}, fault(api.ErrRange, 1)},
		{api.Group{N: 2, Mul: []int{0, 0, 0, 0}}, fault(api.ErrNone, 0)},
		{api.Group{N: 60, Mul: nought}, fault(api.ErrNone, 0)},
		{api.Group{N: 3, Mul: []int{0, 1, 2, 1, 0, 0, 2, 0, 0}}, fault(api.ErrFalse, 1)},
		{api.Group{N: 2, Mul: []int{0, 1, 1, 1}}, fault(api.ErrKind, 1)},
		{api.Group{N: 2, Mul: []int{0, 0, 0, 1}}, fault(api.ErrKind, 0)},
		// In these not all things commute, but that is told behind.
		{api.Group{N: 2, Mul: []int{0, 1, 0, 1}}, fault(api.ErrNone, 0)},
		{api.Group{N: 3, Mul: []int{0, 1, 2, 1, 0, 0, 2, 1, 0}}, fault(api.ErrFalse, 1)},
		{api.Group{N: 3, Mul: []int{0, 1, 2, 1, 1, 1, 2, 2, 2}}, fault(api.ErrKind, 1)},
		{api.Group{N: 3, Mul: []int{0, 1, 2, 1, 1, 2, 2, 1, 3}}, fault(api.ErrRange, 8)},
	}
}

func TestFaultsOfGroupsComeFirst(t *testing.T) {
	for _, wrong := range wrongGroups() {
		same(t, fmt.Sprint("Check of ", wrong.g.N), table.Check(wrong.g), wrong.want)
		for name, call := range ofGroup() {
			same(t, name, call(wrong.g), refused(wrong.want))
		}
	}
}

// TestNotAllCommute: wherever the two things stand that do not.
func TestNotAllCommute(t *testing.T) {
	var all []api.Group
	for n := 3; n <= api.MaxGroup/2; n++ {
		all = append(all, given(t, table.Dihedral, n))
	}
	for n := 2; n <= api.MaxGroup/4; n++ {
		all = append(all, given(t, table.Dicyclic, n))
	}
	even, _, f := table.Perms([][]int{{1, 2, 3, 4, 0}, {1, 2, 0, 3, 4}})
	same(t, "fault", f, api.Fault{})
	all = append(all, even)
	for _, n := range []int{2, 7, 10} {
		g, f := table.Product(cyclics(t, n), given(t, table.Dihedral, 3))
		same(t, "fault", f, api.Fault{})
		all = append(all, g)
	}
	for _, g := range all {
		for _, name := range namings(g.N) {
			for what, call := range ofGroup() {
				same(t, fmt.Sprint(what, " of ", g.N), call(renamed(g, name)), refused(fault(api.ErrKind, 0)))
			}
		}
	}
}

// TestFaultsOfPresent, in their order.
func TestFaultsOfPresent(t *testing.T) {
	const most = api.MaxNum
	ok := []int{most, -most}
	for _, c := range []struct {
		what string
		rows [][]int
		n    int
		want api.Fault
	}{
		{"below 0", nil, -1, fault(api.ErrRange, 1)},
		{"more than 8", nil, 9, fault(api.ErrRange, 1)},
		{"far below", nil, math.MinInt, fault(api.ErrRange, 1)},
		{"far above", nil, math.MaxInt, fault(api.ErrRange, 1)},
		{"n ahead of many rows", make([][]int, 21), 9, fault(api.ErrRange, 1)},
		{"n ahead of sizes", [][]int{{1}}, -1, fault(api.ErrRange, 1)},
		{"n, as large as rows", [][]int{make([]int, 9)}, 9, fault(api.ErrRange, 1)},
		{"n ahead of entries", [][]int{{math.MaxInt}}, 9, fault(api.ErrRange, 1)},

		{"21 rows", slices.Repeat([][]int{ok}, 21), 2, fault(api.ErrMany, 0)},
		{"21 rows of none", make([][]int, 21), 0, fault(api.ErrMany, 0)},
		{"very many rows", make([][]int, 1<<20), 8, fault(api.ErrMany, 0)},
		{"many rows ahead of sizes", make([][]int, 21), 3, fault(api.ErrMany, 0)},
		{"many rows ahead of entries", slices.Repeat([][]int{{most + 1}}, 21), 1, fault(api.ErrMany, 0)},

		{"too short", [][]int{{1}}, 2, fault(api.ErrSize, 0)},
		{"too long", [][]int{ok, {1, 2, 3}}, 2, fault(api.ErrSize, 1)},
		{"nil", [][]int{ok, ok, nil, nil}, 2, fault(api.ErrSize, 2)},
		{"of none", [][]int{nil, {0}}, 0, fault(api.ErrSize, 1)},
		{"nine", [][]int{make([]int, 8), make([]int, 9)}, 8, fault(api.ErrSize, 1)},
		{"the last of 20", append(slices.Repeat([][]int{ok}, 19), ok[:1]), 2, fault(api.ErrSize, 19)},
		{"size ahead of its entries", [][]int{{most + 1, 0, 0}}, 2, fault(api.ErrSize, 0)},
		{"size ahead of later entries", [][]int{{1}, {most + 1, 0}}, 2, fault(api.ErrSize, 0)},
		{"very long", [][]int{make([]int, 1<<20)}, 8, fault(api.ErrSize, 0)},

		{"above", [][]int{{0, most + 1}}, 2, fault(api.ErrRange, 0)},
		{"below", [][]int{ok, {-most - 1, 0}}, 2, fault(api.ErrRange, 1)},
		{"far above", [][]int{ok, ok, {0, math.MaxInt}}, 2, fault(api.ErrRange, 2)},
		{"far below", [][]int{ok, ok, ok, {0, math.MinInt}}, 2, fault(api.ErrRange, 3)},
		{"the first of two", [][]int{ok, {most + 1, 0}, {0, most + 1}}, 2, fault(api.ErrRange, 1)},
		{"entries ahead of later sizes", [][]int{ok, {most + 1, 0}, {1}}, 2, fault(api.ErrRange, 1)},
		{"the last of 20", append(slices.Repeat([][]int{ok}, 19), []int{0, math.MinInt}), 2, fault(api.ErrRange, 19)},
	} {
		same(t, c.what, present(c.rows, c.n), refused(c.want))
	}
	same(t, "20 rows of 8 are taken", present(slices.Repeat([][]int{slices.Repeat(ok, 4)}, 20), 8), answer{texts: []string{"1000000000"}, number: 7})
}

func TestFaultsOfKinds(t *testing.T) {
	for _, n := range []int{0, -1, -8, 1000001, math.MaxInt, math.MinInt, math.MaxInt32, 1 << 20, api.MaxNum} {
		same(t, fmt.Sprint("Kinds of ", n), kinds(n), refused(fault(api.ErrRange, 0)))
	}
	same(t, "the last one", kinds(1000000).f, api.Fault{})
	same(t, "the first one", kinds(1).f, api.Fault{})
}

// TestOnlyReadGroups: neither what is handed in changes, nor what lies behind
// it, and that is not read.
func TestOnlyReadGroups(t *testing.T) {
	for _, g := range []api.Group{cyclics(t, 1), cyclics(t, 2, 4), renamed(cyclics(t, 6, 6), namings(36)[3]), given(t, table.Dihedral, 4)} {
		mul := append(slices.Clone(g.Mul), 1, 2)
		lent := api.Group{N: g.N, Mul: mul[:len(g.Mul)]}
		for name, call := range ofGroup() {
			first := call(lent)
			mul[len(g.Mul)] = -7
			same(t, name+" reads behind", call(lent), first)
			same(t, name+" changed the group", mul, append(slices.Clone(g.Mul), -7, 2))
			mul[len(g.Mul)] = 1
		}
	}
}

// TestOnlyReadRows: likewise of rows.
func TestOnlyReadRows(t *testing.T) {
	for _, rows := range [][][]int{{{2, 4}, {6, 8}}, {{0, 5}, {3, 0}, {0, 0}}, {{1, 2}, {3}}, {{1, api.MaxNum + 1}}, {nil}, {}} {
		first := present(rows, 2)
		for _, behind := range []int{-7, 0, 3} {
			var lent, kept [][]int
			for _, r := range rows {
				whole := append(slices.Clone(r), behind, behind)
				kept = append(kept, whole)
				lent = append(lent, whole[:len(r)])
			}
			lent = append(lent, []int{behind})
			same(t, "reads behind", present(lent[:len(rows)], 2), first)
			for i, r := range rows {
				same(t, "changed a row", kept[i], append(slices.Clone(r), behind, behind))
				same(t, "changed the rows", lent[i], r)
			}
			same(t, "changed what lies behind", lent[len(rows)], []int{behind})
		}
	}
}
