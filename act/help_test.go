package act_test

import (
	"fmt"
	"slices"
	"testing"

	"cayley/act"
	"cayley/api"
)

func fault(code, at int) api.Fault { return api.Fault{Code: code, At: at} }

// same holds two answers against each other; an empty list is a nil list.
func same(t *testing.T, what string, got, want any) {
	t.Helper()
	if fmt.Sprint(got) != fmt.Sprint(want) {
		t.Errorf("%s: %v, want %v", what, got, want)
	}
}

// answer is what a call answers, as a text, and its fault.
type answer struct {
	text string
	f    api.Fault
}

func told[T any](got T, f api.Fault) answer { return answer{fmt.Sprint(got), f} }

// right is the answer that tells this, without a fault.
func right(what any) answer { return answer{fmt.Sprint(what), api.Fault{}} }

// refused is the answer of a call that has this fault, and nothing beside it.
func refused(name string, f api.Fault) answer {
	switch name {
	case "Primitive", "Same":
		return answer{"false", f}
	case "Colours":
		return answer{"", f}
	}
	return answer{"[]", f}
}

// question is what may be asked of permutations: two points and how many
// colours (a is x of Fixes), and two colourings.
type question struct {
	a, b, k     int
	first, then []int
}

// calls are all of the chapter but Check.
func calls() map[string]func(l [][]int, q question) answer {
	return map[string]func(l [][]int, q question) answer{
		"Orbits":    func(l [][]int, q question) answer { return told(act.Orbits(l)) },
		"Blocks":    func(l [][]int, q question) answer { return told(act.Blocks(l, q.a, q.b)) },
		"Primitive": func(l [][]int, q question) answer { return told(act.Primitive(l)) },
		"Fixes":     func(l [][]int, q question) answer { return told(act.Fixes(l, q.a)) },
		"Index":     func(l [][]int, q question) answer { return told(act.Index(l)) },
		"Colours":   func(l [][]int, q question) answer { return told(act.Colours(l, q.k)) },
		"Same":      func(l [][]int, q question) answer { return told(act.Same(l, q.first, q.then)) },
	}
}

// stays has n points, and moves none.
func stays(n int) []int {
	out := []int{}
	for i := range n {
		out = append(out, i)
	}
	return out
}

// ofShape has cycles of these lengths, one behind the other.
func ofShape(lengths ...int) []int {
	out := []int{}
	for _, length := range lengths {
		from := len(out)
		for i := range length {
			out = append(out, from+(i+1)%length)
		}
	}
	return out
}

// turned has the points n - 1 to 0.
func turned(n int) []int {
	out := stays(n)
	slices.Reverse(out)
	return out
}

// all has the permutations of n points, rising.
func all(n int) [][]int {
	out := [][]int{}
	var grow func(ahead []int)
	grow = func(ahead []int) {
		if len(ahead) == n {
			out = append(out, slices.Clone(ahead))
			return
		}
		for x := range n {
			if !slices.Contains(ahead, x) {
				grow(append(ahead, x))
			}
		}
	}
	grow(make([]int, 0, n))
	return out
}

// product moves as p and then as q does.
func product(p, q []int) []int {
	out := []int{}
	for _, x := range p {
		out = append(out, q[x])
	}
	return out
}

// things are all products of l, rising.
func things(l [][]int) [][]int {
	seen := map[string]bool{}
	out := [][]int{}
	take := func(p []int) {
		if !seen[fmt.Sprint(p)] {
			seen[fmt.Sprint(p)] = true
			out = append(out, p)
		}
	}
	for _, p := range l {
		take(slices.Clone(p))
	}
	for i := 0; i < len(out); i++ {
		for _, q := range l {
			take(product(out[i], q))
		}
	}
	slices.SortFunc(out, slices.Compare[[]int])
	return out
}

// known are permutations and all products of theirs.
type known struct {
	l      [][]int
	things [][]int
}

// few have up to four points: each permutation, and each two of them; and some
// of five and six points, whose groups are of all kinds.
func few() []known {
	var lists [][][]int
	for n := range 5 {
		for _, p := range all(n) {
			lists = append(lists, [][]int{p})
			for _, q := range all(n) {
				lists = append(lists, [][]int{p, q})
			}
		}
	}
	for i, p := range all(5) {
		lists = append(lists, [][]int{p}, [][]int{p, {1, 0, 2, 3, 4}}, [][]int{p, all(5)[7*i%120]})
	}
	lists = append(lists,
		[][]int{{1, 2, 3, 4, 5, 0}},
		[][]int{{1, 2, 3, 4, 5, 0}, {5, 4, 3, 2, 1, 0}},
		[][]int{{2, 3, 4, 5, 0, 1}, {1, 0, 3, 2, 5, 4}},
		[][]int{{1, 0, 2, 3, 4, 5}, {2, 3, 4, 5, 0, 1}},
		[][]int{{1, 2, 0, 3, 4, 5}, {3, 4, 5, 0, 1, 2}},
		[][]int{{1, 2, 0, 3, 4, 5}, {0, 1, 2, 4, 5, 3}},
		[][]int{{3, 1, 5, 0, 4, 2}, {0, 4, 2, 3, 1, 5}, {5, 1, 0, 3, 4, 2}},
		[][]int{{1, 2, 3, 4, 0, 5}, {5, 4, 2, 3, 1, 0}}, // the 60 even ones of five, as they move six points
		[][]int{{1, 2, 3, 4, 5, 0}, {1, 0, 2, 3, 4, 5}},
	)
	var out []known
	for _, l := range lists {
		out = append(out, known{l, things(l)})
	}
	return out
}

// partings are all ways to part n points into sets, each as what has of each
// point the number of its set, these numbered by their least points.
func partings(n int) [][]int {
	out := [][]int{}
	var grow func(ahead []int, sets int)
	grow = func(ahead []int, sets int) {
		if len(ahead) == n {
			out = append(out, slices.Clone(ahead))
			return
		}
		for i := range sets + 1 {
			grow(append(ahead, i), max(sets, i+1))
		}
	}
	grow(make([]int, 0, n), 0)
	return out
}

// setsOf are the sets that a parting has.
func setsOf(parting []int) [][]int {
	out := [][]int{}
	for x, at := range parting {
		if at == len(out) {
			out = append(out, nil)
		}
		out[at] = append(out[at], x)
	}
	return out
}

// finer: is each set of one parting within a set of the other one?
func finer(one, other []int) bool {
	for x := range one {
		for y := range one {
			if one[x] == one[y] && other[x] != other[y] {
				return false
			}
		}
	}
	return true
}

// image is the set to which p moves a set.
func image(p, set []int) []int {
	out := []int{}
	for _, x := range set {
		out = append(out, p[x])
	}
	slices.Sort(out)
	return out
}

// isMoved: does p move each of the sets to one of them?
func isMoved(sets [][]int, p []int) bool {
	for _, set := range sets {
		if !slices.ContainsFunc(sets, func(to []int) bool { return slices.Equal(to, image(p, set)) }) {
			return false
		}
	}
	return true
}

// waysOf are the ways to part the points so that each thing moves each set to a
// set.
func waysOf(k known) [][]int {
	var out [][]int
	for _, parting := range partings(len(k.l[0])) {
		sets := setsOf(parting)
		stray := slices.ContainsFunc(k.things, func(p []int) bool { return !isMoved(sets, p) })
		if !stray {
			out = append(out, parting)
		}
	}
	return out
}

// everyColouring has all lists of n numbers from 0 to colours - 1.
func everyColouring(n, colours int) [][]int {
	out := [][]int{nil}
	for range n {
		var longer [][]int
		for _, l := range out {
			for c := range colours {
				longer = append(longer, append(slices.Clone(l), c))
			}
		}
		out = longer
	}
	return out
}

// recoloured is what p makes of a colouring: at the place to which a point is
// moved stands what stood at the point.
func recoloured(p, colouring []int) []int {
	out := make([]int, len(colouring))
	for x, y := range p {
		out[y] = colouring[x]
	}
	return out
}

// cyclesIn counts the cycles of p, those of one point too: each has one least
// point.
func cyclesIn(p []int) int {
	count := 0
	for x := range p {
		least := x
		for y := p[x]; y != x; y = p[y] {
			least = min(least, y)
		}
		if least == x {
			count++
		}
	}
	return count
}
