package sylow_test

import (
	"fmt"
	"math"
	"slices"
	"testing"

	"cayley/api"
	"cayley/table"
)

// wrongGroups have the fault that all calls must tell of each.
func wrongGroups() []struct {
	g    api.Group
	want api.Fault
} {
	nought := make([]int, 3600)
	return []struct {
		g    api.Group
		want api.Fault
	}{
		{api.Group{}, fault(api.ErrMany, 0)},
		{api.Group{N: -1, Mul: []int{0}}, fault(api.ErrMany, 0)},
		{api.Group{N: 61, Mul: make([]int, 3721)}, fault(api.ErrMany, 0)},
		{api.Group{N: math.MaxInt}, fault(api.ErrMany, 0)},
		{api.Group{N: math.MinInt}, fault(api.ErrMany, 0)},
		{api.Group{N: 1}, fault(api.ErrSize, 0)},
		{api.Group{N: 2, Mul: []int{0, 1, 1, 0, 0}}, fault(api.ErrSize, 0)},
		{api.Group{N: 2, Mul: []int{0, 1, 1, 2}}, fault(api.ErrRange, 3)},
		{api.Group{N: 2, Mul: []int{0, math.MinInt, 1, 0}}, fault(api.ErrRange, 1)},
		{api.Group{N: 2, Mul: []int{5, 1, 1, 0}}, fault(api.ErrRange, 0)}, // not at 1, where p's would be
		{api.Group{N: 2, Mul: []int{0, 0, 0, 0}}, fault(api.ErrNone, 0)},
		{api.Group{N: 60, Mul: nought}, fault(api.ErrNone, 0)},
		{api.Group{N: 3, Mul: []int{0, 1, 2, 1, 0, 0, 2, 0, 0}}, fault(api.ErrFalse, 1)},
		{api.Group{N: 2, Mul: []int{0, 1, 1, 1}}, fault(api.ErrKind, 1)},
		{api.Group{N: 2, Mul: []int{0, 0, 0, 1}}, fault(api.ErrKind, 0)},
	}
}

func TestFaultsOfGroupsComeFirst(t *testing.T) {
	for _, wrong := range wrongGroups() {
		for name, call := range calls() {
			for _, p := range []int{2, 3, 97, 0, -1, 4, 101, math.MinInt, math.MaxInt} {
				same(t, fmt.Sprint(name, p), call(wrong.g, p), refused(wrong.want))
			}
		}
	}
}

// TestFaultOfP: ErrRange at 1, just where p is not one of the primes to 100.
func TestFaultOfP(t *testing.T) {
	for _, g := range []api.Group{given(t, table.Cyclic, 1), given(t, table.Dihedral, 4), shuffled(given(t, table.Dihedral, 3)), evenOfFive(t)} {
		for name, call := range calls() {
			for p := -200; p <= 400; p++ {
				got := call(g, p)
				if slices.Contains(primes(), p) {
					same(t, fmt.Sprint(name, p), got.f, api.Fault{})
				} else {
					same(t, fmt.Sprint(name, p), got, refused(fault(api.ErrRange, 1)))
				}
			}
		}
	}
}

// TestWhateverIsGiven: no p may be too great or too small for a call to end.
func TestWhateverIsGiven(t *testing.T) {
	g := given(t, table.Dihedral, 4)
	for name, call := range calls() {
		for shift := range 64 {
			for _, p := range []int{1<<shift - 1, 1 << shift, 1<<shift + 1, -1 << shift} {
				if !slices.Contains(primes(), p) {
					same(t, fmt.Sprint(name, p), call(g, p), refused(fault(api.ErrRange, 1)))
				}
			}
		}
		for _, p := range []int{math.MinInt, math.MinInt + 2, math.MaxInt, math.MaxInt - 24, math.MaxInt32, 1<<61 - 1} {
			same(t, fmt.Sprint(name, p), call(g, p), refused(fault(api.ErrRange, 1)))
		}
	}
}

// TestOnlyRead: the group does not change, nor what lies behind it, and that is not read.
func TestOnlyRead(t *testing.T) {
	for _, g := range []api.Group{given(t, table.Dihedral, 6), shuffled(given(t, table.Dihedral, 3)), given(t, table.Cyclic, 1), evenOfFive(t)} {
		mul := append(slices.Clone(g.Mul), 1, 2)
		lent := api.Group{N: g.N, Mul: mul[:len(g.Mul)]}
		for name, call := range calls() {
			for _, p := range []int{2, 3, 97, 4} {
				first := call(lent, p)
				mul[len(g.Mul)] = -7
				same(t, name+" reads behind", call(lent, p), first)
				same(t, name+" changed the group", mul, append(slices.Clone(g.Mul), -7, 2))
				mul[len(g.Mul)] = 1
			}
		}
	}
}
