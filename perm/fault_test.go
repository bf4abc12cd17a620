package perm_test

import (
	"fmt"
	"math"
	"slices"
	"testing"

	"cayley/api"
	"cayley/perm"
)

// wrongLists have the fault that Check must tell of each.
func wrongLists() []struct {
	p    []int
	want api.Fault
} {
	return []struct {
		p    []int
		want api.Fault
	}{
		{[]int{1}, fault(api.ErrRange, 0)},
		{[]int{-1}, fault(api.ErrRange, 0)},
		{[]int{0, 2}, fault(api.ErrRange, 1)},
		{[]int{0, 1, -1}, fault(api.ErrRange, 2)},
		{[]int{0, math.MinInt}, fault(api.ErrRange, 1)},
		{[]int{math.MaxInt, 0}, fault(api.ErrRange, 0)},
		{[]int{0, 0}, fault(api.ErrTwice, 1)},
		{[]int{2, 1, 0, 1}, fault(api.ErrTwice, 3)},
		{[]int{0, 0, 9}, fault(api.ErrTwice, 1)},
		{[]int{9, 0, 0}, fault(api.ErrRange, 0)},
		{[]int{9, 9}, fault(api.ErrRange, 0)},
		{append(stays(999), 1000), fault(api.ErrRange, 999)},
		{append(stays(999), 0), fault(api.ErrTwice, 999)},
		{append(stays(100), 101), fault(api.ErrRange, 100)},
		{stays(1001), fault(api.ErrMany, 0)},
		{make([]int, 1001), fault(api.ErrMany, 0)},
		{append([]int{-1}, stays(1000)...), fault(api.ErrMany, 0)},
		{make([]int, 1<<20), fault(api.ErrMany, 0)},
	}
}

func TestCheckTellsTheFirstFault(t *testing.T) {
	for _, wrong := range wrongLists() {
		same(t, fmt.Sprint(wrong.p[:min(4, len(wrong.p))]), perm.Check(wrong.p), wrong.want)
	}
}

func TestCheckFindsNothingWrong(t *testing.T) {
	for _, p := range [][]int{nil, {}, {0}, {1, 0}, {1, 2, 0, 3}, stays(1000), falling(1000)} {
		same(t, "right", perm.Check(p), api.Fault{})
	}
	for n := range 6 {
		for _, p := range all(n) {
			same(t, fmt.Sprint(p), perm.Check(p), api.Fault{})
		}
	}
}

func TestAllTellWhatCheckSays(t *testing.T) {
	for _, wrong := range wrongLists() {
		for name, call := range singles() {
			same(t, name, call(wrong.p), answer{emptyOf(name), wrong.want})
		}
	}
}

func TestFaultsOfTwo(t *testing.T) {
	cases := []struct {
		p, q []int
		want api.Fault
	}{
		{[]int{0, 0}, []int{9}, fault(api.ErrTwice, 1)},
		{[]int{0, 2}, []int{0, 0}, fault(api.ErrRange, 1)},
		{[]int{0, 1}, []int{0, 1, 1}, fault(api.ErrTwice, 2)},
		{[]int{0}, []int{0, 5}, fault(api.ErrRange, 1)},
		{[]int{0}, stays(1001), fault(api.ErrMany, 0)},
		{stays(1001), []int{5}, fault(api.ErrMany, 0)},
		{[]int{0}, []int{0, 1}, fault(api.ErrSize, 0)},
		{[]int{1, 0}, []int{0}, fault(api.ErrSize, 0)},
		{nil, []int{0}, fault(api.ErrSize, 0)},
		{[]int{0}, nil, fault(api.ErrSize, 0)},
		{stays(1000), stays(999), fault(api.ErrSize, 0)},
	}
	for _, c := range cases {
		for name, call := range pairs() {
			got := call(c.p, c.q)
			same(t, name, got, answer{"[]", c.want})
		}
	}
}

// TestWhateverIsGiven goes through all short lists of right and wrong numbers: no call may panic, each must answer alike twice, and with Check's fault.
func TestWhateverIsGiven(t *testing.T) {
	numbers := []int{math.MinInt, -1, 0, 1, 2, 3, math.MaxInt}
	lists := [][]int{nil}
	for from := 0; len(lists[from]) < 3; from++ {
		for _, x := range numbers {
			lists = append(lists, append(slices.Clone(lists[from]), x))
		}
	}
	for _, p := range lists {
		want := perm.Check(p)
		for name, call := range singles() {
			got := call(p)
			same(t, name, call(p), got)
			if want.Code != api.OK && got.f != want {
				t.Errorf("%s of %v: %v, want %v", name, p, got.f, want)
			}
		}
		for _, q := range lists {
			for name, call := range pairs() {
				if got := call(p, q); got != call(p, q) || got.f.Code != api.OK && got.text != "[]" {
					t.Errorf("%s of %v and %v: %v", name, p, q, got)
				}
			}
		}
	}
}

// TestGreatestLists: what is as long as may be is answered by all but Rank and, of the last one, Next.
func TestGreatestLists(t *testing.T) {
	for _, p := range [][]int{stays(1000), falling(1000), ofShape(1000), ofShape(500, 499, 1)} {
		for name, call := range singles() {
			want := api.Fault{}
			switch {
			case name == "Rank":
				want = fault(api.ErrMany, 0)
			case name == "Next" && p[0] == 999:
				want = fault(api.ErrNone, 0)
			case name == "Mul 1st":
				want = fault(api.ErrRange, 0)
			case name == "Mul 2nd":
				want = fault(api.ErrSize, 0)
			}
			same(t, name, call(p).f, want)
		}
	}
}

// TestListsAreOnlyRead: neither what is handed in changes, nor what lies behind it.
func TestListsAreOnlyRead(t *testing.T) {
	for _, p := range all(4) {
		memory := append(slices.Clone(p), 77, 78, 79)
		before := slices.Clone(memory)
		for name, call := range singles() {
			first := call(memory[:4])
			same(t, name+" changed", memory, before)
			memory[4], memory[5], memory[6] = 5, 6, 7
			same(t, name+" reads behind", call(memory[:4]), first)
			memory[4], memory[5], memory[6] = 77, 78, 79
		}
	}
}

// TestAnswersAreNew: what is done to an answer touches no argument.
func TestAnswersAreNew(t *testing.T) {
	for _, p := range [][]int{{0, 1, 2}, {1, 2, 0}, {0, 2, 1}} {
		q := slices.Clone(p)
		makers := map[string]func() ([]int, api.Fault){
			"Mul":   func() ([]int, api.Fault) { return perm.Mul(q, q) },
			"Inv":   func() ([]int, api.Fault) { return perm.Inv(q) },
			"Pow":   func() ([]int, api.Fault) { return perm.Pow(q, 1) },
			"Shape": func() ([]int, api.Fault) { return perm.Shape(q) },
			"Conj":  func() ([]int, api.Fault) { return perm.Conj(q, q) },
			"Next":  func() ([]int, api.Fault) { return perm.Next(q) },
		}
		for name, call := range makers {
			got := fine(t, name, call)
			again := fine(t, name, call)
			for i := range got {
				got[i] = -9
			}
			same(t, name+" shares", q, p)
			same(t, name+" keeps", fine(t, name, call), again)
		}
	}
}

// TestCyclesShareNothing: a cycle that grows or changes leaves the others as they are.
func TestCyclesShareNothing(t *testing.T) {
	got, _ := perm.Cycles([]int{1, 2, 0, 4, 3, 6, 5})
	for i := range got {
		_ = append(got[i], -9, -9, -9, -9, -9, -9)
	}
	same(t, "grown", got, "[[0 1 2] [3 4] [5 6]]")
	got[0][0], got[0][2] = -9, -9
	same(t, "changed", got, "[[-9 1 -9] [3 4] [5 6]]")
}
