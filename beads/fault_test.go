package beads_test

import (
	"fmt"
	"math"
	"slices"
	"testing"

	"cayley/api"
)

// wrongNumbers are not from 1 to 1000.
func wrongNumbers() []int {
	return []int{0, -1, -20, -1000, 1001, 1002, 20000, math.MinInt, math.MaxInt, 1 << 32, 1<<32 + 3, -1 << 32}
}

func TestFaultsOfNumbers(t *testing.T) {
	calls := callsThatCount()
	for name, call := range callsThatList() {
		calls[name] = call
	}
	for name, call := range calls {
		for _, wrong := range wrongNumbers() {
			for _, right := range []int{1, 2, 3, 20, 21, 999, 1000} {
				same(t, fmt.Sprint(name, " of n ", wrong, " and k ", right), call(wrong, right), refused(fault(api.ErrRange, 0)))
				// Of too many numbers, too, what is wrong with k is told ahead.
				same(t, fmt.Sprint(name, " of n ", right, " and k ", wrong), call(right, wrong), refused(fault(api.ErrRange, 1)))
			}
			for _, other := range wrongNumbers() {
				same(t, fmt.Sprint(name, " of n ", wrong, " and k ", other), call(wrong, other), refused(fault(api.ErrRange, 0)))
			}
		}
	}
}

func TestManyCanBeCounted(t *testing.T) {
	for name, call := range callsThatCount() {
		for _, n := range []int{1, 2, 20, 21, 64, 999, 1000} {
			for _, k := range []int{1, 2, 512, 999, 1000} {
				same(t, fmt.Sprint(name, " of ", n, " and ", k), call(n, k).f, api.Fault{})
			}
		}
	}
}

// TestFaultsOfMany goes through all n and k of which there may be too many to
// list, beside those whose k^n an int cannot hold: 2^64, 2^72 and more.
func TestFaultsOfMany(t *testing.T) {
	for name, call := range callsThatList() {
		for n := 1; n <= 25; n++ {
			for k := 1; k <= 1000; k++ {
				want := api.Fault{}
				if n > 20 || !isUpTo(n, k, 20000) {
					want = fault(api.ErrMany, 0)
				}
				got := call(n, k)
				if got.f != want {
					t.Errorf("%s of %d and %d: %v, want %v", name, n, k, got.f, want)
				}
				if want.Code != api.OK {
					same(t, fmt.Sprint(name, " of ", n, " and ", k), got, refused(want))
				}
			}
		}
		for _, n := range []int{26, 32, 64, 100, 500, 999, 1000} {
			for _, k := range []int{1, 2, 4, 16, 256, 512, 1000} {
				same(t, fmt.Sprint(name, " of ", n, " and ", k), call(n, k), refused(fault(api.ErrMany, 0)))
			}
		}
	}
}

func TestEdgesOfMany(t *testing.T) {
	for name, call := range callsThatList() {
		for _, right := range [][2]int{{20, 1}, {14, 2}, {9, 3}, {7, 4}, {6, 5}, {5, 7}, {4, 11}, {3, 27}, {2, 141}, {1, 1000}} {
			same(t, fmt.Sprint(name, " of ", right), call(right[0], right[1]).f, api.Fault{})
		}
		for _, wrong := range [][2]int{{21, 1}, {15, 2}, {10, 3}, {8, 4}, {7, 5}, {6, 6}, {5, 8}, {4, 12}, {3, 28}, {2, 142}, {16, 16}, {8, 512}} {
			same(t, fmt.Sprint(name, " of ", wrong), call(wrong[0], wrong[1]), refused(fault(api.ErrMany, 0)))
		}
	}
}

func TestFaultsOfWord(t *testing.T) {
	for name, call := range callsOfWord() {
		many := refused(fault(api.ErrMany, 0))
		same(t, name+" of nil", call(nil), many)
		same(t, name+" of nothing", call([]int{}), many)
		same(t, name+" of too many", call(make([]int, api.MaxWord+1)), many)
		same(t, name+" of far too many", call(make([]int, 20*api.MaxWord)), many)
		same(t, name+" of too many wrong ones", call(slices.Repeat([]int{-1}, api.MaxWord+1)), many)
		for _, wrong := range []int{-1, 1001, 1002, -1000, math.MinInt, math.MaxInt, 1 << 32, 1<<32 + 5} {
			for _, n := range []int{1, 2, 3, 10, api.MaxWord} {
				for _, at := range []int{0, n / 2, n - 1} {
					w := slices.Repeat([]int{1000, 0}, n)[:n]
					w[at] = wrong
					same(t, fmt.Sprint(name, " of ", wrong, " at ", at, " of ", n), call(w), refused(fault(api.ErrRange, at)))
					w[n-1] = -7 // the first that is wrong is told
					same(t, fmt.Sprint(name, " of ", wrong, " at ", at, " of ", n, " and a last one"), call(w), refused(fault(api.ErrRange, at)))
				}
			}
		}
		for _, right := range [][]int{{0}, {1000}, {0, 1000}, make([]int, api.MaxWord), slices.Repeat([]int{1000}, api.MaxWord)} {
			same(t, name+" of a word with nothing wrong", call(right).f, api.Fault{})
		}
	}
}
