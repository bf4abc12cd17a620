package chain_test

import (
	"fmt"
	"math/big"
	"slices"
	"testing"

	"cayley/api"
	"cayley/chain"
	"cayley/perm"
	"cayley/table"
)

func TestOrder(t *testing.T) {
	for _, k := range few() {
		same(t, fmt.Sprint(k.l), told(chain.Order(k.l)), right(len(k.things)))
	}
}

func TestOrderOfLargeGroups(t *testing.T) {
	for _, g := range manyThings() {
		same(t, g.name, told(chain.Order(g.l)), right(g.things))
	}
}

func TestMember(t *testing.T) {
	for _, k := range few() {
		candidates := slices.Clone(k.things)
		for i := range uint64(30) {
			candidates = append(candidates, mixed(len(k.l[0]), i))
		}
		if len(k.l[0]) <= 5 {
			candidates = all(len(k.l[0]))
		}
		for _, p := range candidates {
			_, want := k.lengths[fmt.Sprint(p)]
			same(t, fmt.Sprint(k.l, p), told(chain.Member(k.l, p)), right(want))
		}
	}
}

// TestMemberOfLargeGroups: each product is in the group; and what is taken as
// one more maker makes it greater just where it is not.
func TestMemberOfLargeGroups(t *testing.T) {
	count := map[bool]int{}
	for i, g := range manyThings() {
		n := len(g.l[0])
		for seed := range uint64(4) {
			word := someWord(40+int(seed), len(g.l), seed+uint64(i))
			same(t, g.name, told(chain.Member(g.l, played(g.l, word))), right(true))
			p := mixed(n, seed+uint64(i))
			more, _ := chain.Order(append(slices.Clone(g.l), p))
			same(t, g.name, told(chain.Member(g.l, p)), right(more == g.things))
			count[more == g.things]++
		}
	}
	if count[true] < 20 || count[false] < 20 {
		t.Errorf("too few of one kind: %v", count)
	}
}

func TestMembersThatAreKnown(t *testing.T) {
	for n := 3; n <= 24; n++ {
		for seed := range uint64(6) {
			p := mixed(n, seed+uint64(n))
			sign, _ := perm.Sign(p)
			same(t, fmt.Sprint("even of ", n), told(chain.Member(even(n), p)), right(sign == 1))
			same(t, fmt.Sprint("all of ", n), told(chain.Member(every(n, n), p)), right(true))
		}
	}
	// The corners of 0 1 2 and 3 4 5 are neighbours: as mirror images these
	// cycles turn them against each other.
	one := []int{0, 1, 2}
	for _, c := range []struct {
		name string
		p    []int
		want bool
	}{
		{"one corner turned", cycles(24, one), false},
		{"two corners turned against each other", cycles(24, one, []int{3, 4, 5}), true},
		{"two corners turned alike", cycles(24, one, []int{5, 4, 3}), false},
		{"three corners turned alike", cycles(24, one, []int{9, 10, 11}, []int{15, 16, 17}), true},
		{"two faces of one corner swapped", cycles(24, []int{0, 1}), false},
	} {
		same(t, c.name, told(chain.Member(cube(), c.p)), right(c.want))
	}
}

// TestFixed goes through all lists of points that may be asked.
func TestFixed(t *testing.T) {
	for _, k := range few() {
		lists := [][]int{stays(len(k.l[0])), turned(len(k.l[0]))}
		if len(k.l[0]) <= 5 {
			lists = choices(len(k.l[0]))
		}
		for _, points := range lists {
			count := 0
			for _, p := range k.things {
				if !slices.ContainsFunc(points, func(x int) bool { return p[x] != x }) {
					count++
				}
			}
			same(t, fmt.Sprint(k.l, points), told(chain.Fixed(k.l, points)), right(count))
		}
	}
}

// TestFixedOfLargeGroups: what is left of the group hangs on how many points
// are asked, whichever they are.
func TestFixedOfLargeGroups(t *testing.T) {
	left := []string{"244823040", "10200960", "443520", "20160", "960", "48"}
	whole := times(upTo(24)...)
	same(t, "of 24", whole, "620448401733239439360000")
	for seed := range uint64(10) {
		points := mixed(24, seed)
		for i, want := range left {
			same(t, fmt.Sprint("Mathieu, ", points[:i]), told(chain.Fixed(mathieu(), points[:i])), right(want))
		}
		for i := range 25 {
			want := times(upTo(int64(24 - i))...)
			same(t, fmt.Sprint("all, ", points[:i]), told(chain.Fixed(every(24, 24), points[:i])), right(want))
		}
		same(t, "Mathieu, all points", told(chain.Fixed(mathieu(), points)), right(1))
	}
	for i, want := range []string{"88179840", "3674160", "3674160", "3674160", "174960"} {
		same(t, fmt.Sprint("cube, ", i), told(chain.Fixed(cube(), stays(24)[:i])), right(want))
	}
	same(t, "pairs", told(chain.Fixed(pairs(), []int{5})), right(times(append(upTo(11), 2048)...)))
	same(t, "pairs, both of one", told(chain.Fixed(pairs(), []int{5, 4})), right(times(append(upTo(11), 2048)...)))
}

// checkWord: the word is p, and of as many numbers as it must have.
func checkWord(t *testing.T, l [][]int, p []int, length int) {
	t.Helper()
	word, f := chain.Word(l, p)
	same(t, fmt.Sprint("fault of ", l, p), f, api.Fault{})
	same(t, fmt.Sprint("numbers of ", l, p), len(word), length)
	for _, k := range word {
		if k == 0 || k > len(l) || k < -len(l) {
			t.Fatalf("%v has %d, which stands for nothing", word, k)
		}
	}
	same(t, fmt.Sprint(word, " of ", l), played(l, word), p)
	same(t, fmt.Sprint(word, " of ", l), told(chain.Play(l, word)), right(p))
}

func TestWord(t *testing.T) {
	for _, k := range few() {
		for i, p := range k.things {
			if i%(len(k.things)/60+1) == 0 {
				checkWord(t, k.l, p, k.lengths[fmt.Sprint(p)])
			}
		}
		if len(k.l[0]) > 5 {
			continue
		}
		for _, p := range all(len(k.l[0])) {
			if _, in := k.lengths[fmt.Sprint(p)]; !in {
				same(t, fmt.Sprint(k.l, p), told(chain.Word(k.l, p)), refused("Word", fault(api.ErrNone, 0)))
			}
		}
	}
}

// TestWordOfManyThings: of as many as may be, and of one point beside them that
// nothing moves.
func TestWordOfManyThings(t *testing.T) {
	for _, l := range [][][]int{every(7, 7), every(7, 24), swaps()[:12], even(7), {cycles(7, []int{0, 1}), cycles(7, []int{1, 2}), cycles(7, []int{2, 3}), cycles(7, []int{3, 4}), cycles(7, []int{4, 5}), cycles(7, []int{5, 6})}} {
		k := knownOf(l)
		for i := 0; i < len(k.things); i += 397 {
			checkWord(t, l, k.things[i], k.lengths[fmt.Sprint(k.things[i])])
		}
		last := k.things[len(k.things)-1]
		checkWord(t, l, last, k.lengths[fmt.Sprint(last)])
	}
	k := knownOf(every(7, 24))
	same(t, "things", len(k.things), 5040)
	same(t, "none", told(chain.Word(k.l, cycles(24, []int{22, 23}))), refused("Word", fault(api.ErrNone, 0)))
}

// TestWordOfNeighbours: swaps of neighbours need as many as there are pairs
// that stand the wrong way round.
func TestWordOfNeighbours(t *testing.T) {
	l := [][]int{}
	for x := range 6 {
		l = append(l, cycles(7, []int{x, x + 1}))
	}
	for seed := range uint64(20) {
		p := mixed(7, seed)
		wrong := 0
		for i := range p {
			for k := range i {
				if p[k] > p[i] {
					wrong++
				}
			}
		}
		checkWord(t, l, p, wrong)
	}
	checkWord(t, l, turned(7), 21)
}

func TestPlay(t *testing.T) {
	for i, g := range manyThings() {
		for _, length := range []int{0, 1, 2, 3, 50, 1999, 2000} {
			word := someWord(length, len(g.l), uint64(i+length))
			same(t, fmt.Sprint(g.name, word), told(chain.Play(g.l, word)), right(played(g.l, word)))
		}
	}
	l := [][]int{{1, 2, 0}, {1, 0, 2}}
	for _, c := range []struct {
		word []int
		want string
	}{
		{nil, "[0 1 2]"}, {[]int{}, "[0 1 2]"}, {[]int{1}, "[1 2 0]"}, {[]int{-1}, "[2 0 1]"}, {[]int{2}, "[1 0 2]"}, {[]int{-2}, "[1 0 2]"},
		{[]int{1, 2}, "[0 2 1]"}, {[]int{2, 1}, "[2 1 0]"}, {[]int{1, -1}, "[0 1 2]"}, {[]int{-2, -1, 2}, "[1 2 0]"},
	} {
		same(t, fmt.Sprint(c.word), told(chain.Play(l, c.word)), right(c.want))
	}
	same(t, "no points", told(chain.Play([][]int{nil}, []int{1, -1, 1})), right("[]"))
}

// TestWordsAreProducts: a word behind another one is their product, and one
// from its end on, each number against itself, is the inverse.
func TestWordsAreProducts(t *testing.T) {
	for i, g := range manyThings() {
		first, second := someWord(30, len(g.l), uint64(i)), someWord(17, len(g.l), uint64(i+1))
		p, _ := chain.Play(g.l, first)
		q, _ := chain.Play(g.l, second)
		both, _ := perm.Mul(p, q)
		same(t, g.name, told(chain.Play(g.l, slices.Concat(first, second))), right(both))
		against := []int{}
		for _, k := range first {
			against = append([]int{-k}, against...)
		}
		inv, _ := perm.Inv(p)
		same(t, g.name, told(chain.Play(g.l, against)), right(inv))
	}
}

// TestSchreierAndSims: the number of things is the product of how many points
// each of 0, 1, 2 and so on can be moved to by what moves none of those ahead.
func TestSchreierAndSims(t *testing.T) {
	for _, k := range few() {
		want := int64(1)
		for x := range k.l[0] {
			reached := map[int]bool{}
			for _, p := range k.things {
				if slices.Equal(p[:x], stays(x)) {
					reached[p[x]] = true
				}
			}
			want *= int64(len(reached))
		}
		same(t, fmt.Sprint(k.l), told(chain.Order(k.l)), right(want))
	}
}

// TestEachPointIsReached: what moves none of the points ahead of x has as many
// times the things of what does not move x either, as x is moved to points by
// its Members.
func TestEachPointIsReached(t *testing.T) {
	for _, n := range []int{4, 5, 6} {
		for _, l := range [][][]int{every(n, n), even(n), {ofShape(n), turned(n)}} {
			for x := range n {
				reached := map[int]bool{}
				for _, p := range all(n) {
					if in, _ := chain.Member(l, p); in && slices.Equal(p[:x], stays(x)) {
						reached[p[x]] = true
					}
				}
				ahead, _ := chain.Fixed(l, stays(x))
				behind, _ := chain.Fixed(l, stays(x+1))
				more, fewer := new(big.Int), new(big.Int)
				more.SetString(ahead, 10)
				fewer.SetString(behind, 10)
				same(t, fmt.Sprint(l, x), more, fewer.Mul(fewer, big.NewInt(int64(len(reached)))))
			}
		}
	}
}

// TestAsTablesTell: where there are few things, chapter 2 tells the same.
func TestAsTablesTell(t *testing.T) {
	for _, k := range few() {
		g, things, f := table.Perms(k.l)
		if f.Code != api.OK {
			continue
		}
		same(t, fmt.Sprint(k.l), told(chain.Order(k.l)), right(g.N))
		for _, p := range things {
			same(t, fmt.Sprint(k.l, p), told(chain.Member(k.l, p)), right(true))
		}
	}
}

func TestExamplesOfTheChapter(t *testing.T) {
	same(t, "five points", told(chain.Order([][]int{{1, 2, 3, 4, 0}, {1, 0, 2, 3, 4}})), right("120"))
	l := [][]int{{0, 1}, {1, 0}}
	checkWord(t, l, []int{1, 0}, 1)
	checkWord(t, l, []int{0, 1}, 0)
}

// TestManyMakers: as many permutations of as many points as may be.
func TestManyMakers(t *testing.T) {
	for seed := range uint64(20) {
		l, evens := [][]int{}, [][]int{}
		for i := range uint64(20) {
			p := mixed(24, 20*seed+i)
			l = append(l, p)
			evens = append(evens, product(p, p))
		}
		same(t, "all", told(chain.Order(l)), right(times(upTo(24)...)))
		same(t, "even", told(chain.Order(evens)), right(times(upTo(24)[2:]...)))
		same(t, "much", told(chain.Word(l, l[0])), refused("Word", fault(api.ErrMuch, 0)))
	}
}

// TestAnswersAreNew: what is done to an answer touches no argument and no later
// answer.
func TestAnswersAreNew(t *testing.T) {
	l, p, word := [][]int{{1, 2, 3, 4, 0}, {1, 0, 2, 3, 4}}, []int{4, 1, 2, 3, 0}, []int{1}
	before := fmt.Sprint(l, p, word)
	for name, call := range map[string]func() ([]int, api.Fault){
		"Word": func() ([]int, api.Fault) { return chain.Word(l, p) },
		"Play": func() ([]int, api.Fault) { return chain.Play(l, word) },
	} {
		got, _ := call()
		first := fmt.Sprint(got)
		for i := range got {
			got[i] = -9
		}
		same(t, name+" again", told(call()), right(first))
	}
	same(t, "arguments", fmt.Sprint(l, p, word), before)
}
