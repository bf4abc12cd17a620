package chain_test

import (
	"fmt"
	"math/big"
	"slices"
	"testing"

	"cayley/api"
	"cayley/chain"
)

func fault(code, at int) api.Fault { return api.Fault{Code: code, At: at} }

// same holds two answers against each other; an empty list is a nil list.
func same(t *testing.T, what string, got, want any) {
	t.Helper()
	if fmt.Sprint(got) != fmt.Sprint(want) {
		t.Errorf("%s: %v, want %v", what, got, want)
	}
}

// answer is what a call answers, as a text, and its fault.
type answer struct {
	text string
	f    api.Fault
}

func told[T any](got T, f api.Fault) answer { return answer{fmt.Sprint(got), f} }

// right is the answer that tells this, without a fault.
func right(what any) answer { return answer{fmt.Sprint(what), api.Fault{}} }

// refused is the answer of a call that has this fault, and nothing beside it.
func refused(name string, f api.Fault) answer {
	switch name {
	case "Member":
		return answer{"false", f}
	case "Order", "Fixed":
		return answer{"", f}
	}
	return answer{"[]", f}
}

// calls are all of the chapter; a is p, the points or the word.
func calls() map[string]func(l [][]int, a []int) answer {
	return map[string]func(l [][]int, a []int) answer{
		"Order":  func(l [][]int, a []int) answer { return told(chain.Order(l)) },
		"Member": func(l [][]int, a []int) answer { return told(chain.Member(l, a)) },
		"Fixed":  func(l [][]int, a []int) answer { return told(chain.Fixed(l, a)) },
		"Word":   func(l [][]int, a []int) answer { return told(chain.Word(l, a)) },
		"Play":   func(l [][]int, a []int) answer { return told(chain.Play(l, a)) },
	}
}

// stays has n points, and moves none.
func stays(n int) []int {
	out := []int{}
	for i := range n {
		out = append(out, i)
	}
	return out
}

// ofShape has cycles of these lengths, one behind the other.
func ofShape(lengths ...int) []int {
	out := []int{}
	for _, length := range lengths {
		from := len(out)
		for i := range length {
			out = append(out, from+(i+1)%length)
		}
	}
	return out
}

// cycles has n points, and these cycles.
func cycles(n int, list ...[]int) []int {
	out := stays(n)
	for _, cycle := range list {
		for i, x := range cycle {
			out[x] = cycle[(i+1)%len(cycle)]
		}
	}
	return out
}

// turned has the points n - 1 to 0.
func turned(n int) []int {
	out := stays(n)
	slices.Reverse(out)
	return out
}

// all has the permutations of n points, rising.
func all(n int) [][]int {
	out := [][]int{}
	for _, list := range choices(n) {
		if len(list) == n {
			out = append(out, list)
		}
	}
	return out
}

// choices are all lists of some of n points, none twice.
func choices(n int) [][]int {
	out := [][]int{}
	var grow func(ahead []int)
	grow = func(ahead []int) {
		out = append(out, slices.Clone(ahead))
		for x := range n {
			if !slices.Contains(ahead, x) {
				grow(append(ahead, x))
			}
		}
	}
	grow(make([]int, 0, n))
	return out
}

// product moves as p and then as q does.
func product(p, q []int) []int {
	out := []int{}
	for _, x := range p {
		out = append(out, q[x])
	}
	return out
}

// inverse moves back.
func inverse(p []int) []int {
	out := make([]int, len(p))
	for i, x := range p {
		out[x] = i
	}
	return out
}

// known are permutations, all products of theirs, rising, and of each the least
// number of permutations and inverses whose product it is.
type known struct {
	l       [][]int
	things  [][]int
	lengths map[string]int
}

// knownOf goes through all words, those of fewer numbers first.
func knownOf(l [][]int) known {
	k := known{l: l, lengths: map[string]int{}}
	words := [][]int{stays(len(l[0]))}
	for length := 0; len(words) > 0; length++ {
		var longer [][]int
		for _, p := range words {
			if _, there := k.lengths[fmt.Sprint(p)]; there {
				continue
			}
			k.lengths[fmt.Sprint(p)] = length
			k.things = append(k.things, p)
			for _, q := range l {
				longer = append(longer, product(p, q), product(p, inverse(q)))
			}
		}
		words = longer
	}
	slices.SortFunc(k.things, slices.Compare[[]int])
	return k
}

// few have up to four points: each permutation, and each two of them; and some
// of more points, whose groups are of all kinds.
func few() []known {
	var lists [][][]int
	for n := range 5 {
		for _, p := range all(n) {
			lists = append(lists, [][]int{p})
			for _, q := range all(n) {
				lists = append(lists, [][]int{p, q})
			}
		}
	}
	five := all(5)
	for i, p := range five {
		lists = append(lists, [][]int{p}, [][]int{p, five[7*i%120], five[11*i%120]})
	}
	lists = append(lists,
		slices.Repeat([][]int{nil}, 20),
		slices.Repeat([][]int{{0, 1, 2}}, 20),
		append(slices.Repeat([][]int{{0, 1, 2}}, 18), []int{1, 0, 2}, []int{0, 2, 1}),
		[][]int{{1, 2, 3, 4, 5, 0}, {5, 4, 3, 2, 1, 0}},
		[][]int{{1, 0, 2, 3, 4, 5}, {2, 3, 4, 5, 0, 1}},
		[][]int{{1, 2, 0, 3, 4, 5}, {3, 4, 5, 0, 1, 2}},
		[][]int{{1, 2, 3, 4, 0, 5}, {5, 4, 2, 3, 1, 0}},
		[][]int{{1, 2, 3, 4, 5, 0}, {1, 0, 2, 3, 4, 5}},
		[][]int{ofShape(2, 3, 5, 7), ofShape(1, 1, 3, 5, 7)},
		[][]int{turned(24), ofShape(24)},
		[][]int{ofShape(11, 13), ofShape(11, 1, 1, 1, 1, 1, 1, 1, 1, 1, 1, 1, 1, 1)},
	)
	var out []known
	for _, l := range lists {
		out = append(out, knownOf(l))
	}
	return out
}

// large are permutations and how many things their group is known to have.
type large struct {
	name   string
	l      [][]int
	things string
}

func times(numbers ...int64) string {
	out := big.NewInt(1)
	for _, n := range numbers {
		out.Mul(out, big.NewInt(n))
	}
	return out.String()
}

// upTo has the numbers from 1 to n: their product is how many permutations of n
// points there are.
func upTo(n int64) []int64 {
	out := []int64{}
	for i := range n {
		out = append(out, i+1)
	}
	return out
}

// every makes all permutations of the first n of points.
func every(n, points int) [][]int {
	return [][]int{cycles(points, stays(n)), cycles(points, stays(min(n, 2)))}
}

// even makes all even permutations of n points (three or more).
func even(n int) [][]int {
	from := (n + 1) % 2 // a cycle of all points, or of all but one: it is even
	return [][]int{cycles(n, []int{0, 1, 2}), cycles(n, stays(n)[from:])}
}

// mathieu makes Mathieu's group of 24 points, the last of which its first two
// permutations do not move.
func mathieu() [][]int {
	return [][]int{
		ofShape(23, 1),
		cycles(24, []int{2, 16, 9, 6, 8}, []int{3, 12, 13, 18, 4}, []int{7, 17, 10, 11, 22}, []int{14, 19, 21, 20, 15}),
		cycles(24, []int{0, 23}, []int{1, 22}, []int{2, 11}, []int{3, 15}, []int{4, 17}, []int{5, 9},
			[]int{6, 19}, []int{7, 13}, []int{8, 20}, []int{10, 16}, []int{12, 21}, []int{14, 18}),
	}
}

// line makes the group that moves x to x + 1 and to -1 / x, by a prime p, with
// the point p as what is beyond all.
func line(p int) [][]int {
	next, turn := ofShape(p, 1), stays(p+1)
	for x := 1; x < p; x++ {
		for y := range p {
			if (x*y+1)%p == 0 {
				turn[x] = y
			}
		}
	}
	turn[0], turn[p] = p, 0
	return [][]int{next, turn}
}

// corner is one of the three faces of a corner of a cube: where the corner is,
// each number -1 or 1, and along which of the three axes the face looks.
type corner struct {
	at   [3]int
	axis int
}

// cube makes the group of the turns of the six sides of a cube of two by two by
// two, which move the 24 faces of its corners: three by three, those of one
// corner.
func cube() [][]int {
	var faces []corner
	for i := range 8 {
		for axis := range 3 {
			faces = append(faces, corner{[3]int{i&1*2 - 1, i&2 - 1, i&4/2 - 1}, axis})
		}
	}
	var out [][]int
	for side := range 6 {
		axis, next, last := side%3, (side+1)%3, (side+2)%3
		p := []int{}
		for _, face := range faces {
			to := face
			if face.at[axis] == side/3*2-1 {
				to.at[next], to.at[last] = -face.at[last], face.at[next]
				if face.axis != axis {
					to.axis = next + last - face.axis
				}
			}
			p = append(p, slices.Index(faces, to))
		}
		out = append(out, p)
	}
	return out
}

// pairs makes the group that moves 12 pairs of points to one another and each
// pair in itself.
func pairs() [][]int {
	turn := []int{}
	for x := range 24 {
		turn = append(turn, (x+2)%24)
	}
	return [][]int{turn, cycles(24, []int{0, 2}, []int{1, 3}), cycles(24, []int{5, 4})}
}

// swaps move two points each, those of no two the same.
func swaps() [][]int {
	var out [][]int
	for x := range 12 {
		out = append(out, cycles(24, []int{2 * x, 2*x + 1}))
	}
	return out
}

// affine makes the group of all ways to move four bits that keep sums of two
// the same or move all of them by the same.
func affine() [][]int {
	add, turn, shear := []int{}, []int{}, []int{}
	for x := range 16 {
		add = append(add, x^1)
		turn = append(turn, x*2%16+x/8)
		shear = append(shear, x^x/2%2)
	}
	return [][]int{add, turn, shear}
}

func manyThings() []large {
	m := mathieu()
	out := []large{
		{"Mathieu, 11", [][]int{ofShape(11), {0, 1, 6, 9, 5, 3, 10, 2, 8, 4, 7}}, "7920"},
		{"Mathieu, 12", [][]int{ofShape(11, 1), cycles(12, []int{2, 6, 10, 7}, []int{3, 9, 4, 5}),
			cycles(12, []int{0, 11}, []int{1, 10}, []int{2, 5}, []int{3, 7}, []int{4, 8}, []int{6, 9})}, "95040"},
		{"Mathieu, 23", m[:2], "10200960"},
		{"Mathieu, 24", m, "244823040"},
		{"cube", cube(), times(append(upTo(8), 3, 3, 3, 3, 3, 3, 3)...)},
		{"cube, one corner stays", cube()[:3], times(append(upTo(7), 3, 3, 3, 3, 3, 3)...)},
		{"pairs", pairs(), times(append(upTo(12), 4096)...)},
		{"swaps", swaps(), "4096"},
		{"affine", affine(), times(16, 15, 14, 12, 8)},
		{"cycle", [][]int{ofShape(3, 5, 7, 8, 1)}, "840"},
		{"all of 7 and of 17", [][]int{ofShape(7, 17), cycles(24, []int{0, 1}), cycles(24, []int{7, 8})},
			times(append(upTo(7), upTo(17)...)...)},
	}
	for n := 1; n <= 24; n++ {
		out = append(out, large{fmt.Sprint("all of ", n), every(n, n), times(upTo(int64(n))...)})
		out = append(out, large{fmt.Sprint("all of ", n, " of 24"), every(n, 24), times(upTo(int64(n))...)})
		if n >= 3 {
			out = append(out, large{fmt.Sprint("even of ", n), even(n), times(upTo(int64(n))[2:]...)})
			out = append(out, large{fmt.Sprint("turns of ", n), [][]int{ofShape(n), turned(n)}, fmt.Sprint(2 * n)})
		}
	}
	for _, p := range []int{5, 7, 11, 13, 17, 19, 23} {
		out = append(out, large{fmt.Sprint("line of ", p), line(p), fmt.Sprint(p * (p*p - 1) / 2)})
	}
	return out
}

// mixed is a permutation that hangs on a seed alone.
func mixed(n int, seed uint64) []int {
	out := stays(n)
	for i := n - 1; i > 0; i-- {
		seed = seed*6364136223846793005 + 1442695040888963407
		j := int(seed>>33) % (i + 1)
		out[i], out[j] = out[j], out[i]
	}
	return out
}

// someWord has numbers that stand for one of many permutations or its inverse.
func someWord(length, many int, seed uint64) []int {
	out := []int{}
	for range length {
		seed = seed*6364136223846793005 + 1442695040888963407
		k := int(seed>>33)%many + 1
		if seed>>40&1 == 1 {
			k = -k
		}
		out = append(out, k)
	}
	return out
}

// played is what a word is, number by number.
func played(l [][]int, word []int) []int {
	out := stays(len(l[0]))
	for _, k := range word {
		if k > 0 {
			out = product(out, l[k-1])
		} else {
			out = product(out, inverse(l[-k-1]))
		}
	}
	return out
}
