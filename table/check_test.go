package table_test

import (
	"fmt"
	"math"
	"slices"
	"testing"

	"cayley/api"
	"cayley/table"
)

func TestCheckTellsTheFirstFault(t *testing.T) {
	for _, wrong := range wrongGroups() {
		same(t, fmt.Sprint(wrong.g.N, wrong.g.Mul[:min(9, len(wrong.g.Mul))]), table.Check(wrong.g), wrong.want)
	}
}

// wrongGroups have the fault that Check must tell of each.
func wrongGroups() []struct {
	g    api.Group
	want api.Fault
} {
	nought := make([]int, 3600)
	return []struct {
		g    api.Group
		want api.Fault
	}{
		{api.Group{}, fault(api.ErrMany, 0)},
		{api.Group{N: 0, Mul: []int{0}}, fault(api.ErrMany, 0)},
		{api.Group{N: -1, Mul: []int{0}}, fault(api.ErrMany, 0)},
		{api.Group{N: 61, Mul: make([]int, 3721)}, fault(api.ErrMany, 0)},
		{api.Group{N: 61}, fault(api.ErrMany, 0)},
		{api.Group{N: math.MaxInt, Mul: []int{0}}, fault(api.ErrMany, 0)},
		{api.Group{N: math.MinInt}, fault(api.ErrMany, 0)},
		{api.Group{N: 1 << 32}, fault(api.ErrMany, 0)},
		{api.Group{N: 1}, fault(api.ErrSize, 0)},
		{api.Group{N: 1, Mul: []int{0, 0}}, fault(api.ErrSize, 0)},
		{api.Group{N: 2, Mul: []int{9, 9, 9}}, fault(api.ErrSize, 0)},
		{api.Group{N: 2, Mul: []int{0, 1, 1, 0, 0}}, fault(api.ErrSize, 0)},
		{api.Group{N: 60, Mul: nought[:3599]}, fault(api.ErrSize, 0)},
		{api.Group{N: 1, Mul: []int{1}}, fault(api.ErrRange, 0)},
		{api.Group{N: 1, Mul: []int{-1}}, fault(api.ErrRange, 0)},
		{api.Group{N: 2, Mul: []int{0, 1, 1, 2}}, fault(api.ErrRange, 3)},
		{api.Group{N: 2, Mul: []int{0, -1, 2, 0}}, fault(api.ErrRange, 1)},
		{api.Group{N: 2, Mul: []int{0, 1, math.MinInt, math.MaxInt}}, fault(api.ErrRange, 2)},
		{api.Group{N: 2, Mul: []int{0, 0, 0, 0}}, fault(api.ErrNone, 0)},
		{api.Group{N: 60, Mul: nought}, fault(api.ErrNone, 0)},
		{api.Group{N: 2, Mul: []int{0, 1, 0, 1}}, fault(api.ErrNone, 0)}, // a one on the left alone
		{api.Group{N: 2, Mul: []int{0, 0, 1, 1}}, fault(api.ErrNone, 0)}, // and on the right alone
		{api.Group{N: 2, Mul: []int{1, 0, 0, 0}}, fault(api.ErrNone, 0)}, // products do not group either
		{api.Group{N: 3, Mul: []int{0, 1, 2, 1, 0, 0, 2, 0, 0}}, fault(api.ErrFalse, 1)},
		{api.Group{N: 3, Mul: []int{0, 0, 0, 0, 0, 1, 0, 1, 2}}, fault(api.ErrKind, 0)},
		{api.Group{N: 3, Mul: []int{1, 2, 0, 2, 2, 1, 0, 1, 2}}, fault(api.ErrFalse, 0)},
		{api.Group{N: 3, Mul: []int{0, 1, 2, 1, 1, 2, 2, 1, 1}}, fault(api.ErrFalse, 2)}, // 1 has no inverse either
		{api.Group{N: 2, Mul: []int{0, 1, 1, 1}}, fault(api.ErrKind, 1)},
		{api.Group{N: 2, Mul: []int{0, 0, 0, 1}}, fault(api.ErrKind, 0)},
	}
}

// wanted is what Check must say, word by word, without the program.
func wanted(g api.Group) api.Fault {
	if g.N < 1 || g.N > 60 {
		return fault(api.ErrMany, 0)
	}
	if len(g.Mul) != g.N*g.N {
		return fault(api.ErrSize, 0)
	}
	for i, x := range g.Mul {
		if x < 0 || x >= g.N {
			return fault(api.ErrRange, i)
		}
	}
	one := -1
	for e := range g.N {
		is := true
		for a := range g.N {
			is = is && of(g, a, e) == a && of(g, e, a) == a
		}
		if is {
			one = e
		}
	}
	if one < 0 {
		return fault(api.ErrNone, 0)
	}
	for a := range g.N {
		for b := range g.N {
			for c := range g.N {
				if of(g, of(g, a, b), c) != of(g, a, of(g, b, c)) {
					return fault(api.ErrFalse, a)
				}
			}
		}
	}
	for a := range g.N {
		has := false
		for b := range g.N {
			has = has || of(g, a, b) == one && of(g, b, a) == one
		}
		if !has {
			return fault(api.ErrKind, a)
		}
	}
	return api.Fault{}
}

// everyTable hands over all tables of n things with entries from low to high.
func everyTable(n, low, high int, hand func(g api.Group)) {
	mul := make([]int, n*n)
	for i := range mul {
		mul[i] = low
	}
	for at := 0; at < len(mul); {
		hand(api.Group{N: n, Mul: slices.Clone(mul)})
		for at = 0; at < len(mul) && mul[at] == high; at++ {
			mul[at] = low
		}
		if at < len(mul) {
			mul[at]++
		}
	}
}

func TestCheckOfEverySmallTable(t *testing.T) {
	groups := map[int]int{}
	check := func(g api.Group) {
		want := wanted(g)
		if got := table.Check(g); got != want {
			t.Errorf("%v: %v, want %v", g, got, want)
		}
		if want.Code == api.OK {
			groups[g.N]++
		}
	}
	everyTable(1, -1, 1, check)
	everyTable(2, -1, 2, check)
	everyTable(3, 0, 2, check)
	same(t, "groups by their sizes", groups, map[int]int{1: 1, 2: 2, 3: 3})
}

// TestCheckOfOneWrongEntry changes each entry of small groups, and some of great ones.
func TestCheckOfOneWrongEntry(t *testing.T) {
	for _, g := range someGroups(t) {
		same(t, "group", table.Check(g), api.Fault{})
		step := 1
		if g.N > 12 {
			step = 601
		}
		for at := 0; at < len(g.Mul); at += step {
			for _, x := range []int{0, g.N / 2, g.N - 1, g.N, -1} {
				bad := api.Group{N: g.N, Mul: slices.Clone(g.Mul)}
				bad.Mul[at] = x
				if got, want := table.Check(bad), wanted(bad); got != want {
					t.Errorf("%d things, %d at %d: %v, want %v", g.N, x, at, got, want)
				}
			}
		}
	}
}

func TestAllTellWhatCheckSays(t *testing.T) {
	for _, wrong := range wrongGroups() {
		for name, call := range singles() {
			same(t, name, call(wrong.g), answer{emptyOf(name), wrong.want})
		}
	}
}

func TestFaultsOfTwoGroups(t *testing.T) {
	fine := given(t, table.Cyclic, 31)
	noOne := api.Group{N: 2, Mul: []int{0, 0, 0, 0}}
	short := api.Group{N: 2}
	same(t, "first", told(table.Product(noOne, short)), answer{"{0 []}", fault(api.ErrNone, 0)})
	same(t, "first", told(table.Product(short, noOne)), answer{"{0 []}", fault(api.ErrSize, 0)})
	same(t, "second", told(table.Product(fine, noOne)), answer{"{0 []}", fault(api.ErrNone, 0)})
	same(t, "second", told(table.Product(fine, api.Group{N: 60, Mul: make([]int, 3600)})), answer{"{0 []}", fault(api.ErrNone, 0)})
}

func TestThingsThatAreNone(t *testing.T) {
	for _, g := range someGroups(t) {
		for _, a := range []int{-1, g.N, math.MaxInt, math.MinInt} {
			same(t, "Inv", told(table.Inv(g, a)), answer{"0", fault(api.ErrRange, 1)})
			for _, n := range []int{0, 1, -1, math.MinInt} {
				same(t, "Pow", told(table.Pow(g, a, n)), answer{"0", fault(api.ErrRange, 1)})
			}
		}
	}
}

// TestWhateverIsGiven: no call may panic, each must answer alike twice, and with Check's fault.
func TestWhateverIsGiven(t *testing.T) {
	everyTable(2, -1, 2, func(g api.Group) {
		want := table.Check(g)
		for name, call := range singles() {
			got := call(g)
			same(t, name, call(g), got)
			if want.Code != api.OK && got != (answer{emptyOf(name), want}) {
				t.Errorf("%s of %v: %v, want %v", name, g, got, want)
			}
		}
	})
}

// TestTablesAreOnlyRead: neither what is handed in changes, nor what lies behind it.
func TestTablesAreOnlyRead(t *testing.T) {
	for _, g := range someGroups(t) {
		memory := append(slices.Clone(g.Mul), 77, 78, 79)
		behind := memory[len(g.Mul):]
		lent := api.Group{N: g.N, Mul: memory[:len(g.Mul)]}
		for name, call := range singles() {
			first := call(lent)
			same(t, name+" changed", lent, g)
			same(t, name+" wrote behind", behind, "[77 78 79]")
			behind[0], behind[1], behind[2] = 0, 1, 2
			same(t, name+" reads behind", call(lent), first)
			behind[0], behind[1], behind[2] = 77, 78, 79
		}
	}
}
