package act_test

import (
	"fmt"
	"math"
	"slices"
	"testing"

	"cayley/act"
	"cayley/api"
)

// wrongLists have the fault that Check must tell of each.
func wrongLists() []struct {
	name string
	l    [][]int
	want api.Fault
} {
	swap, stay := []int{1, 0}, []int{0, 1}
	many := func(n int, p []int) [][]int { return slices.Repeat([][]int{p}, n) }
	return []struct {
		name string
		l    [][]int
		want api.Fault
	}{
		{"nil", nil, fault(api.ErrMany, 0)},
		{"none", [][]int{}, fault(api.ErrMany, 0)},
		{"21", many(21, swap), fault(api.ErrMany, 0)},
		{"21 without points", many(21, nil), fault(api.ErrMany, 0)},
		{"21 wrong ones", many(21, []int{7}), fault(api.ErrMany, 0)},
		{"a million", many(1000000, nil), fault(api.ErrMany, 0)},
		{"range", [][]int{{2, 0}}, fault(api.ErrRange, 0)},
		{"range", [][]int{stay, swap, {0, -1}}, fault(api.ErrRange, 2)},
		{"range, not at its place", [][]int{{0, 1, 2, 3, 9}}, fault(api.ErrRange, 0)},
		{"range", [][]int{swap, {math.MinInt, 0}}, fault(api.ErrRange, 1)},
		{"range", [][]int{swap, {0, math.MaxInt}}, fault(api.ErrRange, 1)},
		{"twice", [][]int{{0, 0}}, fault(api.ErrTwice, 0)},
		{"twice", [][]int{swap, {0, 0}, {5}}, fault(api.ErrTwice, 1)},
		{"twice ahead of range", [][]int{swap, {0, 0, 9}}, fault(api.ErrTwice, 1)},
		{"many points", [][]int{stays(1001)}, fault(api.ErrMany, 0)},
		{"many points", [][]int{swap, stay, stays(1001)}, fault(api.ErrMany, 2)},
		{"many points, wrong", [][]int{swap, make([]int, 1001)}, fault(api.ErrMany, 1)},
		{"size", [][]int{swap, {0}}, fault(api.ErrSize, 1)},
		{"size", [][]int{{0}, swap}, fault(api.ErrSize, 1)},
		{"size", [][]int{{}, swap}, fault(api.ErrSize, 1)},
		{"size", [][]int{swap, nil}, fault(api.ErrSize, 1)},
		{"size", append(many(19, swap), []int{0, 1, 2}), fault(api.ErrSize, 19)},
		{"size of neighbours", [][]int{swap, stay, {0, 1, 2}, {0, 1, 2}}, fault(api.ErrSize, 2)},
		{"size ahead of what is wrong later", [][]int{swap, {0}, {7}}, fault(api.ErrSize, 1)},
		{"wrong ahead of size", [][]int{swap, {7}}, fault(api.ErrRange, 1)},
		{"wrong ahead of size", [][]int{swap, {0, 1, 1}}, fault(api.ErrTwice, 1)},
		{"size ahead of much", [][]int{ofShape(61), swap}, fault(api.ErrSize, 1)},
	}
}

func TestCheckTellsTheFirstFault(t *testing.T) {
	for _, wrong := range wrongLists() {
		same(t, wrong.name, act.Check(wrong.l), wrong.want)
	}
}

func TestCheckFindsNothingWrong(t *testing.T) {
	for _, l := range [][][]int{
		{nil}, {{}}, {nil, {}}, {{0}}, {{1, 0}, {1, 0}, {0, 1}}, slices.Repeat([][]int{{1, 2, 0}}, 20),
		slices.Repeat([][]int{ofShape(1000)}, 20), slices.Repeat([][]int{nil}, 20), {ofShape(61)},
	} {
		same(t, "right", act.Check(l), api.Fault{})
	}
	for _, k := range few() {
		same(t, fmt.Sprint(k.l), act.Check(k.l), api.Fault{})
	}
}

// TestAllTellFirstWhatCheckSays: whatever else is wrong.
func TestAllTellFirstWhatCheckSays(t *testing.T) {
	for _, wrong := range wrongLists() {
		for _, q := range []question{{}, {a: -1, b: -1, k: -1}, {a: 5000, b: 5000, k: 5000, first: stays(3), then: stays(4)}, {k: 2, first: stays(2), then: stays(2)}} {
			for name, call := range calls() {
				same(t, name+", "+wrong.name, call(wrong.l, q), refused(name, wrong.want))
			}
		}
	}
}

// noPoints are numbers that are none of n points.
func noPoints(n int) []int {
	return []int{-1, n, n + 1, 1000, math.MinInt, math.MaxInt, 1 << 32}
}

func TestFaultsOfPoints(t *testing.T) {
	much := []int{1, 2, 3, 4, 0}
	for _, l := range [][][]int{{{}}, {{0}}, {{1, 0, 2}}, {much, {1, 0, 2, 3, 4}}, {ofShape(61)}} {
		n := len(l[0])
		for _, bad := range noPoints(n) {
			same(t, "Fixes", told(act.Fixes(l, bad)), refused("Fixes", fault(api.ErrRange, 1)))
			for _, b := range append(noPoints(n), 0, n-1) {
				same(t, fmt.Sprint("first of ", n), told(act.Blocks(l, bad, b)), refused("Blocks", fault(api.ErrRange, 1)))
			}
			for a := range n {
				same(t, fmt.Sprint("second of ", n), told(act.Blocks(l, a, bad)), refused("Blocks", fault(api.ErrRange, 2)))
			}
		}
	}
}

// TestFaultOfMuch: those that ask for the things tell it, the others answer.
func TestFaultOfMuch(t *testing.T) {
	for _, l := range [][][]int{{ofShape(61)}, {ofShape(1000)}, {{1, 2, 3, 4, 0}, {1, 0, 2, 3, 4}}, {ofShape(3, 4, 7)}} {
		n := len(l[0])
		q := question{a: n - 1, b: 0, k: 2, first: stays(n), then: stays(n)}
		for name, call := range calls() {
			got := call(l, q)
			switch name {
			case "Orbits", "Blocks", "Primitive":
				same(t, name, got.f, api.Fault{})
			default:
				same(t, name, got, refused(name, fault(api.ErrMuch, 0)))
			}
		}
		same(t, "much ahead of k", told(act.Colours(l, -1)), refused("Colours", fault(api.ErrMuch, 0)))
		same(t, "much ahead of size", told(act.Same(l, nil, nil)), refused("Same", fault(api.ErrMuch, 0)))
		same(t, "x ahead of much", told(act.Fixes(l, n)), refused("Fixes", fault(api.ErrRange, 1)))
	}
	sixty := [][]int{{1, 2, 3, 4, 0}, {1, 2, 0, 3, 4}}
	for name, call := range calls() {
		got := call(sixty, question{a: 1, b: 2, k: 1000, first: stays(5), then: stays(5)})
		same(t, name+" of 60 things", got.f, api.Fault{})
	}
}

func TestFaultsOfColours(t *testing.T) {
	for _, l := range [][][]int{{{}}, {{0}}, {{1, 2, 3, 0}}} {
		for _, k := range []int{-1, 1001, math.MinInt, math.MaxInt, 1 << 32} {
			same(t, fmt.Sprint(k), told(act.Colours(l, k)), refused("Colours", fault(api.ErrRange, 1)))
		}
		for _, k := range []int{0, 1, 1000} {
			_, f := act.Colours(l, k)
			same(t, fmt.Sprint(k), f, api.Fault{})
		}
	}
}

func TestFaultsOfColourings(t *testing.T) {
	for n := range 4 {
		l := [][]int{ofShape(n)}
		if n == 0 {
			l = [][]int{{}}
		}
		for a := range n + 3 {
			for b := range n + 3 {
				got := told(act.Same(l, stays(a), stays(b)))
				if a == n && b == n {
					same(t, fmt.Sprint(a, b, " of ", n), got, right(true))
					continue
				}
				same(t, fmt.Sprint(a, b, " of ", n), got, refused("Same", fault(api.ErrSize, 0)))
			}
		}
	}
}

// TestWhateverIsGiven goes through short lists of right and wrong numbers: no
// call may panic, each must answer alike twice, and with Check's fault.
func TestWhateverIsGiven(t *testing.T) {
	lists := [][]int{nil}
	for from := 0; len(lists[from]) < 2; from++ {
		for _, x := range []int{math.MinInt, -1, 0, 1, 2, math.MaxInt} {
			lists = append(lists, append(slices.Clone(lists[from]), x))
		}
	}
	for _, p := range lists {
		for _, q := range lists {
			l := [][]int{p, q}
			want := act.Check(l)
			for name, call := range calls() {
				for _, asked := range []question{{0, 1, 2, p, q}, {-1, 0, 1001, nil, []int{1, 1, 1}}, {1, 0, 0, q, p}} {
					got := call(l, asked)
					same(t, name, call(l, asked), got)
					if want.Code != api.OK {
						same(t, fmt.Sprint(name, l), got, refused(name, want))
					}
				}
			}
		}
	}
}

// TestListsAreOnlyRead: neither what is handed in changes, nor what lies behind
// it, and that is not read.
func TestListsAreOnlyRead(t *testing.T) {
	memory := []int{1, 0, 2, 3, 77, 1, 2, 3, 0, 77, 5, 6, 6, 6, 77, 6, 5, 6, 6, 77}
	lists := [][]int{memory[0:4], memory[5:9], {9}, {9, 9}}
	asked := question{a: 0, b: 2, k: 3, first: memory[10:14], then: memory[15:19]}
	behind := func(x int) {
		for i := 4; i < len(memory); i += 5 {
			memory[i] = x
		}
	}
	for name, call := range calls() {
		first := call(lists[:2], asked)
		same(t, name+" changed", memory, "[1 0 2 3 77 1 2 3 0 77 5 6 6 6 77 6 5 6 6 77]")
		behind(1)
		same(t, name+" reads behind", call(lists[:2], asked), first)
		behind(77)
		same(t, name+" changed the lists", lists[2:], "[[9] [9 9]]")
	}
}
