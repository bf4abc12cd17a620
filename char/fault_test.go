package char_test

import (
	"fmt"
	"math"
	"slices"
	"testing"

	"cayley/api"
	"cayley/table"
)

// wrongGroups have the fault that all calls must tell of each.
func wrongGroups() []struct {
	g    api.Group
	want api.Fault
} {
	nought := make([]int, 3600)
	return []struct {
		g    api.Group
		want api.Fault
	}{
		{api.Group{}, fault(api.ErrMany, 0)},
		{api.Group{N: -1, Mul: []int{0}}, fault(api.ErrMany, 0)},
		{api.Group{N: 61, Mul: make([]int, 3721)}, fault(api.ErrMany, 0)},
		{api.Group{N: math.MaxInt}, fault(api.ErrMany, 0)},
		{api.Group{N: math.MinInt}, fault(api.ErrMany, 0)},
		{api.Group{N: 1}, fault(api.ErrSize, 0)},
		{api.Group{N: 60, Mul: nought[:3599]}, fault(api.ErrSize, 0)},
		{api.Group{N: 2, Mul: []int{0, 1, 1, 0, 0}}, fault(api.ErrSize, 0)},
		{api.Group{N: 2, Mul: []int{0, 1, 1, 2}}, fault(api.ErrRange, 3)},
		{api.Group{N: 2, Mul: []int{0, math.MinInt, 1, 0}}, fault(api.ErrRange, 1)},
		{api.Group{N: 2, Mul: []int{5, 1, 1, 0}}, fault(api.ErrRange, 0)},
		{api.Group{N: 2, Mul: []int{0, 0, 0, 0}}, fault(api.ErrNone, 0)},
		{api.Group{N: 60, Mul: nought}, fault(api.ErrNone, 0)},
		{api.Group{N: 3, Mul: []int{0, 1, 2, 1, 0, 0, 2, 0, 0}}, fault(api.ErrFalse, 1)},
		{api.Group{N: 2, Mul: []int{0, 1, 1, 1}}, fault(api.ErrKind, 1)},
		{api.Group{N: 2, Mul: []int{0, 0, 0, 1}}, fault(api.ErrKind, 0)},
	}
}

func TestFaultsOfGroupsComeFirst(t *testing.T) {
	for _, wrong := range wrongGroups() {
		for name, call := range calls() {
			same(t, name, call(wrong.g), refused(wrong.want))
		}
	}
}

// maximum has n things; the product of two is the greater one. The one is 0,
// products group as one likes, and no thing but the one has an inverse.
func maximum(n int) api.Group {
	g := api.Group{N: n}
	for at := range n * n {
		g.Mul = append(g.Mul, max(at/n, at%n))
	}
	return g
}

// TestFaultsOfGroupsComeAheadOfMany: what is wrong with a group of many things
// is told, not that it has too many classes.
func TestFaultsOfGroupsComeAheadOfMany(t *testing.T) {
	for n := 25; n <= api.MaxGroup; n++ {
		short, off, changed := given(t, table.Cyclic, n), given(t, table.Cyclic, n), given(t, table.Cyclic, n)
		short.Mul = short.Mul[1:]
		off.Mul[n*n-1] = n
		changed.Mul[n+1] = 0
		for name, call := range calls() {
			same(t, name+": too few entries", call(short), refused(fault(api.ErrSize, 0)))
			same(t, name+": no thing", call(off), refused(fault(api.ErrRange, n*n-1)))
			same(t, name+": no one", call(api.Group{N: n, Mul: make([]int, n*n)}), refused(fault(api.ErrNone, 0)))
			same(t, name+": products do not group", call(changed), refused(fault(api.ErrFalse, 1)))
			same(t, name+": no inverse", call(maximum(n)), refused(fault(api.ErrKind, 1)))
		}
	}
}

// TestManyClasses: of 24 classes both tell, of more they do not, however many
// things there are.
func TestManyClasses(t *testing.T) {
	six, square, quaternions := given(t, table.Dihedral, 3), given(t, table.Dihedral, 4), given(t, table.Dicyclic, 2)
	type many struct {
		g       api.Group
		classes int
	}
	list := []many{
		{product(t, six, given(t, table.Cyclic, 7)), 21},
		{product(t, six, given(t, table.Cyclic, 8)), 24},
		{product(t, six, given(t, table.Cyclic, 9)), 27},
		{product(t, square, given(t, table.Cyclic, 4)), 20},
		{product(t, square, given(t, table.Cyclic, 5)), 25},
		{product(t, quaternions, given(t, table.Cyclic, 5)), 25},
		{product(t, given(t, table.Dihedral, 5), given(t, table.Cyclic, 6)), 24},
		{given(t, table.Dihedral, 30), 18},
		{evenOfFive(t), 5},
	}
	for n := 1; n <= api.MaxGroup; n++ {
		list = append(list, many{given(t, table.Cyclic, n), n})
	}
	for _, c := range list {
		for _, g := range []api.Group{c.g, shuffled(c.g), strewn(c.g)} {
			what := fmt.Sprint(" of ", g.N, " things in ", c.classes, " classes")
			if c.classes > 24 {
				same(t, "Table"+what, characters(g), refused(fault(api.ErrMany, 0)))
				same(t, "Degrees"+what, degrees(g), refused(fault(api.ErrMany, 0)))
			} else {
				same(t, "Table"+what, fmt.Sprint(len(characters(g).rows), characters(g).f), fmt.Sprint(c.classes, api.Fault{}))
				same(t, "Degrees"+what, fmt.Sprint(len(degrees(g).degrees), degrees(g).f), fmt.Sprint(c.classes, api.Fault{}))
			}
		}
	}
}

// TestEveryTableOfTwo: whatever stands there, and however many entries, no call
// panics, and each has the fault that Check has.
func TestEveryTableOfTwo(t *testing.T) {
	lists := [][]int{nil}
	for at := 0; at < len(lists); at++ {
		for x := -1; x <= 2 && len(lists[at]) < 5; x++ {
			lists = append(lists, append(slices.Clone(lists[at]), x))
		}
	}
	right := 0
	for _, mul := range lists {
		g := api.Group{N: 2, Mul: mul}
		want := table.Check(g)
		if want.Code == api.OK {
			right++
		}
		for name, call := range calls() {
			got := call(g)
			same(t, fmt.Sprint(name, mul), got.f, want)
			if want.Code != api.OK {
				same(t, fmt.Sprint(name, mul), got, refused(want))
			}
		}
	}
	same(t, "how many are groups", right, 2)
}

// TestEveryTableOfThree: the same, where all entries are things.
func TestEveryTableOfThree(t *testing.T) {
	right := 0
	for code := range 19683 {
		g := api.Group{N: 3}
		for rest := code; len(g.Mul) < 9; rest /= 3 {
			g.Mul = append(g.Mul, rest%3)
		}
		want := table.Check(g)
		if want.Code == api.OK {
			right++
		}
		for name, call := range calls() {
			got := call(g)
			same(t, fmt.Sprint(name, g.Mul), got.f, want)
			if want.Code != api.OK {
				same(t, fmt.Sprint(name, g.Mul), got, refused(want))
			}
		}
	}
	same(t, "how many are groups", right, 3)
}

// TestOnlyRead: the group does not change, nor what lies behind it, and that is
// not read.
func TestOnlyRead(t *testing.T) {
	for _, g := range []api.Group{
		given(t, table.Dihedral, 6), shuffled(given(t, table.Dihedral, 3)), given(t, table.Cyclic, 1), given(t, table.Cyclic, 25), evenOfFive(t),
	} {
		mul := append(slices.Clone(g.Mul), 1, 2)
		lent := api.Group{N: g.N, Mul: mul[:len(g.Mul)]}
		for name, call := range calls() {
			asked := call(lent)
			mul[len(g.Mul)] = -7
			same(t, name+" reads behind", call(lent), asked)
			same(t, name+" changed the group", mul, append(slices.Clone(g.Mul), -7, 2))
			mul[len(g.Mul)] = 1
		}
	}
}
