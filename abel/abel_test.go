package abel_test

import (
	"fmt"
	"math/big"
	"math/bits"
	"slices"
	"strings"
	"testing"

	"cayley/api"
	"cayley/hom"
	"cayley/table"
)

func TestExamples(t *testing.T) {
	g, f := table.Product(given(t, table.Cyclic, 4), given(t, table.Cyclic, 6))
	same(t, "fault", f, api.Fault{})
	same(t, "Invariants", invariants(g), answer{list: []int{2, 12}})
	same(t, "Present", present([][]int{{2, 0, 0}, {0, 3, 0}}, 3), answer{texts: []string{"6"}, number: 1})
	same(t, "Kinds", kinds(8), answer{lists: [][]int{{2, 2, 2}, {2, 4}, {8}}})
}

func TestAnswersOfOneThing(t *testing.T) {
	one := given(t, table.Cyclic, 1)
	same(t, "Invariants", invariants(one), answer{})
	same(t, "Dual", dual(one), answer{number: 1, lists: [][]int{{0}}})
	same(t, "Kinds", kinds(1), answer{lists: [][]int{nil}})
	same(t, "Present of none", present(nil, 0), answer{})
	same(t, "Present of one", present([][]int{{1}}, 1), answer{})
}

func TestAnswersThatAreKnown(t *testing.T) {
	turned := api.Group{N: 2, Mul: []int{1, 0, 0, 1}} // the one is 1
	same(t, "Invariants", invariants(turned), answer{list: []int{2}})
	same(t, "Dual", dual(turned), answer{number: 2, lists: [][]int{{0, 0}, {1, 0}}})
	same(t, "Dual of 4", dual(cyclics(t, 4)), answer{number: 4, lists: [][]int{{0, 0, 0, 0}, {0, 1, 2, 3}, {0, 2, 0, 2}, {0, 3, 2, 1}}})
	same(t, "Dual of 2 2", dual(cyclics(t, 2, 2)), answer{number: 2, lists: [][]int{{0, 0, 0, 0}, {0, 0, 1, 1}, {0, 1, 0, 1}, {0, 1, 1, 0}}})
	same(t, "Dual of 2 4", dual(cyclics(t, 2, 4)).lists[1], []int{0, 0, 0, 0, 2, 2, 2, 2})
	for _, c := range []struct {
		sizes, want []int
	}{
		{[]int{60}, []int{60}}, {[]int{59}, []int{59}}, {[]int{2, 3}, []int{6}}, {[]int{3, 4, 5}, []int{60}}, {[]int{2, 30}, []int{2, 30}},
		{[]int{10, 6}, []int{2, 30}}, {[]int{2, 2, 3, 5}, []int{2, 30}}, {[]int{6, 6}, []int{6, 6}}, {[]int{4, 9}, []int{36}},
		{[]int{2, 2, 2, 2, 2}, []int{2, 2, 2, 2, 2}}, {[]int{8, 2, 2}, []int{2, 2, 8}}, {[]int{4, 4, 2}, []int{2, 4, 4}}, {[]int{12, 4}, []int{4, 12}},
		{[]int{7, 7}, []int{7, 7}}, {[]int{3, 3, 6}, []int{3, 3, 6}}, {[]int{6, 3, 2}, []int{6, 6}}, {[]int{1, 5, 1, 5}, []int{5, 5}},
	} {
		same(t, fmt.Sprint("Invariants of ", c.sizes), invariants(cyclics(t, c.sizes...)), answer{list: c.want})
	}
	for what, g := range map[string]api.Group{
		"Dihedral 1": given(t, table.Dihedral, 1), "Dihedral 2": given(t, table.Dihedral, 2), "Dicyclic 1": given(t, table.Dicyclic, 1),
	} {
		want := map[string][]int{"Dihedral 1": {2}, "Dihedral 2": {2, 2}, "Dicyclic 1": {4}}
		same(t, what, invariants(g), answer{list: want[what]})
	}
}

// partings of a list of sizes into products that are isomorphic.
func partings(sizes []int) [][]int {
	turned := slices.Clone(sizes)
	slices.Reverse(turned)
	var powers []int
	for _, n := range sizes {
		powers = append(powers, primePowers(n)...)
	}
	rising := slices.Sorted(slices.Values(powers))
	return [][]int{sizes, turned, powers, rising}
}

// TestInvariantsOfAll abelian groups there are, called in some ways.
func TestInvariantsOfAll(t *testing.T) {
	for n := 1; n <= api.MaxGroup; n++ {
		for _, kind := range kindsOf(n) {
			for _, sizes := range partings(kind) {
				g := cyclics(t, sizes...)
				for _, name := range namings(n) {
					same(t, fmt.Sprint("Invariants of ", sizes), invariants(renamed(g, name)), answer{list: kind})
				}
			}
		}
	}
}

// TestInvariantsAreIsomorphic by chapter 5, to the product of the cyclic groups.
func TestInvariantsAreIsomorphic(t *testing.T) {
	for n := 1; n <= api.MaxGroup; n++ {
		for _, kind := range kindsOf(n) {
			g := renamed(cyclics(t, kind...), namings(n)[3])
			got := invariants(g)
			same(t, "fault", got.f, api.Fault{})
			_, f := hom.Iso(g, cyclics(t, got.list...))
			same(t, fmt.Sprint("isomorphic to ", got.list), f, api.Fault{})
		}
	}
}

// TestIsomorphicFollows: two groups are so just where Invariants are the same.
func TestIsomorphicFollows(t *testing.T) {
	count := map[bool]int{}
	for n := 1; n <= api.MaxGroup; n++ {
		var all []api.Group
		for _, kind := range kindsOf(n) {
			for i, sizes := range partings(kind)[1:3] {
				all = append(all, renamed(cyclics(t, sizes...), namings(n)[i+1]))
			}
		}
		for _, g := range all {
			for _, h := range all {
				_, f := hom.Iso(g, h)
				is := slices.Equal(invariants(g).list, invariants(h).list)
				same(t, fmt.Sprint("isomorphic, of ", n), f.Code == api.OK, is)
				count[is]++
			}
		}
	}
	same(t, "some of both kinds", count[true] > 100 && count[false] > 100, true)
}

// TestDualByTheWords: all lists are tried.
func TestDualByTheWords(t *testing.T) {
	for _, sizes := range [][]int{{1}, {2}, {3}, {4}, {2, 2}, {5}, {6}, {2, 2, 2}, {2, 4}, {3, 3}, {2, 2, 2, 2}} {
		g := cyclics(t, sizes...)
		e := slices.Max(sizes)
		for _, name := range namings(g.N) {
			h := renamed(g, name)
			same(t, fmt.Sprint("Dual of ", sizes), dual(h), answer{number: e, lists: everyCharacter(h, e)})
		}
	}
}

// TestDualIsAllOfChapterFive: characters are homomorphisms into a cyclic group.
func TestDualIsAllOfChapterFive(t *testing.T) {
	for n := 1; n <= api.MaxSmall; n++ {
		for _, kind := range kindsOf(n) {
			for _, name := range namings(n) {
				g := renamed(cyclics(t, kind...), name)
				e, f := table.Exponent(g)
				same(t, "fault", f, api.Fault{})
				all, f := hom.All(g, cyclics(t, e))
				same(t, "fault", f, api.Fault{})
				same(t, fmt.Sprint("Dual of ", kind), dual(g), answer{number: e, lists: all})
			}
		}
	}
}

// TestDualOfAll abelian groups there are, called in some ways.
func TestDualOfAll(t *testing.T) {
	for n := 1; n <= api.MaxGroup; n++ {
		for _, kind := range kindsOf(n) {
			g := cyclics(t, kind...)
			for _, name := range namings(n) {
				e, lists := charactersOf(kind, name)
				same(t, fmt.Sprint("Dual of ", kind), dual(renamed(g, name)), answer{number: e, lists: lists})
			}
		}
	}
}

// sumOf is that of two characters.
func sumOf(e int, l, m []int) []int {
	out := slices.Clone(l)
	for i := range out {
		out[i] = (out[i] + m[i]) % e
	}
	return out
}

// TestPontryaginFollows: there are as many characters as things, the sum of two
// is one, and only the one goes to 0 by all of them.
func TestPontryaginFollows(t *testing.T) {
	for n := 1; n <= api.MaxGroup; n++ {
		for i, kind := range kindsOf(n) {
			g := renamed(cyclics(t, kind...), namings(n)[i%4])
			got := dual(g)
			same(t, "as many", len(got.lists), n)
			same(t, "rising", slices.IsSortedFunc(got.lists, slices.Compare), true)
			there := map[string]bool{}
			for _, l := range got.lists {
				there[fmt.Sprint(l)] = true
				same(t, fmt.Sprint("a character of ", kind, ": ", l), isCharacter(g, got.number, l), true)
			}
			same(t, "each once", len(there), n)
			for _, l := range got.lists {
				for _, m := range got.lists {
					if sum := sumOf(got.number, l, m); !there[fmt.Sprint(sum)] {
						t.Errorf("of %v: %v and %v: no sum", kind, l, m)
					}
				}
			}
			for a := range n {
				moved := slices.ContainsFunc(got.lists, func(l []int) bool { return l[a] > 0 })
				same(t, fmt.Sprint("of ", kind, ": ", a, " goes to 0"), !moved, a == oneIn(g))
			}
		}
	}
}

func TestPresentThatIsKnown(t *testing.T) {
	const most = api.MaxNum
	for _, c := range []struct {
		rows  [][]int
		n     int
		texts string
		parts int
	}{
		{nil, 0, "", 0}, {make([][]int, 20), 0, "", 0}, {nil, 1, "", 1}, {nil, 8, "", 8}, {[][]int{}, 3, "", 3},
		{[][]int{{0}}, 1, "", 1}, {[][]int{{1}}, 1, "", 0}, {[][]int{{-1}}, 1, "", 0}, {[][]int{{2}}, 1, "2", 0}, {[][]int{{-2}}, 1, "2", 0},
		{[][]int{{4}, {6}}, 1, "2", 0}, {[][]int{{4}, {-6}, {0}}, 1, "2", 0}, {[][]int{{6}, {10}, {15}}, 1, "", 0},
		{[][]int{{2, 4}, {6, 8}}, 2, "2 4", 0}, {[][]int{{6, 8}, {2, 4}}, 2, "2 4", 0}, {[][]int{{2, 0}, {0, 3}}, 2, "6", 0},
		{[][]int{{4, 0}, {0, 6}}, 2, "2 12", 0}, {[][]int{{6, 0}, {0, 4}}, 2, "2 12", 0}, {[][]int{{12, 0}, {0, 2}}, 2, "2 12", 0},
		{[][]int{{1, 1}}, 2, "", 1}, {[][]int{{2, 2}}, 2, "2", 1}, {[][]int{{2, -2}, {-2, 2}}, 2, "2", 1}, {[][]int{{6, 10, 15}}, 3, "", 2},
		{[][]int{{0, 0, 0}, {0, 0, 7}}, 3, "7", 2}, {[][]int{{0, 0, 1}, {0, 5, 0}, {0, 0, 0}}, 3, "5", 1},
		{[][]int{{6, 0, 0}, {0, 10, 0}, {0, 0, 15}}, 3, "30 30", 0}, {[][]int{{2, 1, 0}, {0, 2, 1}, {0, 0, 2}}, 3, "8", 0},
		{[][]int{{1, 2, 3}, {4, 5, 6}, {7, 8, 9}}, 3, "3", 1}, {[][]int{{2, -1, -1}, {-1, 2, -1}, {-1, -1, 2}}, 3, "3", 1},
		{[][]int{{most}}, 1, "1000000000", 0}, {[][]int{{-most}}, 1, "1000000000", 0},
		{[][]int{{most, 0}, {0, -most}}, 2, "1000000000 1000000000", 0},
		{[][]int{{most, most - 1}, {most - 1, -most}}, 2, "1999999998000000001", 0},
		{[][]int{{most, most - 1}, {most - 1, most - 2}}, 2, "", 0},
		{[][]int{{most, 0}, {0, most - 1}}, 2, "999999999000000000", 0},
	} {
		got := present(c.rows, c.n)
		same(t, fmt.Sprint(c.rows), fmt.Sprint(strings.Join(got.texts, " "), ";", got.number, got.f), fmt.Sprint(c.texts, ";", c.parts, api.Fault{}))
	}
}

// stairs are eight relations: each thing, size times, is the next one, and the
// last, size times, is the zero thing.
func stairs(size int) [][]int {
	rows := make([][]int, 8)
	for i := range rows {
		rows[i] = make([]int, 8)
		rows[i][i] = size
		if i < 7 {
			rows[i][i+1] = -1
		}
	}
	return rows
}

// TestPresentIsLong: what is told has more digits than an int.
func TestPresentIsLong(t *testing.T) {
	long := "1" + strings.Repeat("0", 72)
	same(t, "one long part", present(stairs(api.MaxNum), 8), answer{texts: []string{long}})
	same(t, "below 0", present(stairs(-api.MaxNum), 8), answer{texts: []string{long}})
	power := new(big.Int).Exp(big.NewInt(999999999), big.NewInt(8), nil).String()
	same(t, "another one", present(stairs(999999999), 8), answer{texts: []string{power}})
	signs := make([][]int, 8) // Hadamard's: there is no greater determinant
	for i := range signs {
		for j := range 8 {
			signs[i] = append(signs[i], api.MaxNum*(1-bits.OnesCount(uint(i&j))%2*2))
		}
	}
	want := answer{texts: strings.Fields("1000000000 2000000000 2000000000 2000000000 4000000000 4000000000 4000000000 8000000000")}
	same(t, "great determinant", present(signs, 8), want)
}

// TestPresentByMinors: little ones, by determinants.
func TestPresentByMinors(t *testing.T) {
	number := numbers(1)
	for _, most := range []int{1, 2, 3, 6, 30, 1000, api.MaxNum} {
		for n := range 5 {
			for many := range 6 {
				for range 6 {
					rows := thrown(number, many, n, most)
					want := presentByMinors(rows, n)
					same(t, fmt.Sprint("by minors ", rows), present(rows, n), want)
					same(t, fmt.Sprint("steps by minors ", rows), presentBySteps(rows, n), want)
				}
			}
		}
	}
}

// TestPresentBySteps: of each number of things and rows.
func TestPresentBySteps(t *testing.T) {
	number := numbers(2)
	for _, most := range []int{1, 2, 9, 1000000, api.MaxNum} {
		for n := range 9 {
			for many := range 21 {
				rows := thrown(number, many, n, most)
				same(t, fmt.Sprint("by steps ", rows), present(rows, n), presentBySteps(rows, n))
			}
		}
	}
}

// mixed has many rows that are sums of some of rows, by numbers of at most that size.
func mixed(number func(most int) int, rows [][]int, many, n, most int) [][]int {
	out := make([][]int, many)
	for i := range out {
		out[i] = make([]int, n)
		for _, r := range rows {
			times := number(most)
			for j := range r {
				out[i][j] += times * r[j]
			}
		}
	}
	return out
}

// TestPresentOfManyParts: rows whose entries share much, of a rank that is told.
func TestPresentOfManyParts(t *testing.T) {
	number := numbers(3)
	few, many := 0, 0
	for round := range 200 {
		rank, n := round%9, 8-round%3
		diagonal := make([][]int, min(rank, n))
		for i := range diagonal {
			diagonal[i] = make([]int, n)
			diagonal[i][i] = []int{1, 2, 4, 6, 12, 30, 36, 210, 720, 1024}[(number(5)+round+5)%10]
		}
		rows := mixed(number, diagonal, 8+round%13, n, 9)
		for _, r := range rows { // and other things make the group
			for j := 1; j < n; j++ {
				r[j-1] += 3 * r[j]
				r[j] -= 2 * r[j-1]
			}
		}
		got := present(rows, n)
		same(t, fmt.Sprint("by steps ", rows), got, presentBySteps(rows, n))
		if got.number > 0 {
			few++
		}
		if len(got.texts) > 2 {
			many++
		}
	}
	same(t, "some with infinite parts, some with many numbers", few > 50 && many > 50, true)
}

// TestPresentOfTheSame: the order of rows and things, signs, and what follows
// from the rows do not matter.
func TestPresentOfTheSame(t *testing.T) {
	number := numbers(4)
	for round := range 60 {
		n := 1 + round%8
		rows := thrown(number, 1+round%9, n, []int{3, 20, 100000}[round%3])
		want := present(rows, n)
		turned := slices.Clone(rows)
		slices.Reverse(turned)
		same(t, fmt.Sprint("other order ", rows), present(turned, n), want)
		same(t, fmt.Sprint("twice ", rows), present(append(turned, rows...), n), want)
		same(t, fmt.Sprint("with what follows ", rows), present(append(mixed(number, rows, 11, n, 9), rows...), n), want)
		var mirrored, negated [][]int
		for _, r := range rows {
			back := slices.Clone(r)
			slices.Reverse(back)
			mirrored = append(mirrored, back)
			negated = append(negated, mixed(func(int) int { return -1 }, [][]int{r}, 1, n, 1)...)
		}
		same(t, fmt.Sprint("things in other order ", rows), present(mirrored, n), want)
		same(t, fmt.Sprint("other signs ", rows), present(negated, n), want)
	}
}

// TestPresentOfTables: the things of a small group, with all products as
// relations, make it.
func TestPresentOfTables(t *testing.T) {
	for n := 1; n <= 5; n++ {
		for _, kind := range kindsOf(n) {
			g := cyclics(t, kind...)
			var rows [][]int
			for a := range n {
				for b := range a + 1 {
					r := make([]int, n)
					r[a]++
					r[b]++
					r[of(g, a, b)]--
					rows = append(rows, r)
				}
			}
			want := answer{}
			for _, size := range invariants(g).list {
				want.texts = append(want.texts, fmt.Sprint(size))
			}
			same(t, fmt.Sprint("of ", kind), present(rows, n), want)
		}
	}
}

// TestKindsByTheWords: all lists of small numbers.
func TestKindsByTheWords(t *testing.T) {
	for n := 1; n <= 2000; n++ {
		same(t, fmt.Sprint("Kinds of ", n), kinds(n), answer{lists: kindsOf(n)})
	}
}

// partitions is in how many ways n is a sum of numbers of at most that size.
func partitions(n, most int) int {
	if n == 0 {
		return 1
	}
	ways := 0
	for part := 1; part <= min(n, most); part++ {
		ways += partitions(n-part, part)
	}
	return ways
}

// howManyKinds: those of each prime by itself, multiplied.
func howManyKinds(n int) int {
	ways := 1
	for p := 2; p*p <= n; p++ {
		often := 0
		for ; n%p == 0; n /= p {
			often++
		}
		ways *= partitions(often, often)
	}
	return ways
}

// TestKindsOfGreat numbers: lists of the kind, rising, and as many as there are.
func TestKindsOfGreat(t *testing.T) {
	great := []int{1 << 19, 995328, 884736, 720720, 510510, 531441, 390625, 823543, 999983, 983 * 983, 997 * 997, 1000 * 1000, 999999, 993 * 993, 786432, 999424}
	for n := 999900; n <= 1000000; n++ {
		great = append(great, n)
	}
	for _, n := range great {
		got := kinds(n)
		same(t, "fault", got.f, api.Fault{})
		same(t, fmt.Sprint("how many of ", n), len(got.lists), howManyKinds(n))
		for i, l := range got.lists {
			product, last := 1, 1
			for _, d := range l {
				same(t, fmt.Sprint("of ", n, ": ", l), d > 1 && d%last == 0, true)
				product, last = product*d, d
			}
			same(t, fmt.Sprint("product of ", l), product, n)
			same(t, fmt.Sprint("order of ", l), i == 0 || slices.Compare(got.lists[i-1], l) < 0, true)
		}
	}
}

// TestKindsAreInvariants of just the groups of n things in which all commute.
func TestKindsAreInvariants(t *testing.T) {
	for n := 1; n <= api.MaxGroup; n++ {
		for _, kind := range kinds(n).lists {
			same(t, "Invariants", invariants(cyclics(t, kind...)), answer{list: kind})
		}
	}
}

// TestAnswersAreNew: what is done to an answer touches neither what was handed
// in nor another list of it, nor later answers.
func TestAnswersAreNew(t *testing.T) {
	g, rows := renamed(cyclics(t, 2, 6), namings(12)[3]), [][]int{{4, 0}, {0, 6}}
	before := fmt.Sprint(g, rows)
	for name, call := range map[string]func() answer{
		"Invariants": func() answer { return invariants(g) },
		"Dual":       func() answer { return dual(g) },
		"Dual of 1":  func() answer { return dual(cyclics(t, 1)) },
		"Present":    func() answer { return present(rows, 2) },
		"Kinds":      func() answer { return kinds(1 << 10 * 9) },
		"Kinds of 1": func() answer { return kinds(1) },
	} {
		got := call()
		first := fmt.Sprint(got)
		lists := append(got.lists, got.list)
		for i, list := range lists {
			behind := fmt.Sprint(lists[i+1:])
			for k := range list[:cap(list)] {
				list[:cap(list)][k] = -9
			}
			same(t, name+" apart", lists[i+1:], behind)
		}
		clear(got.texts)
		same(t, name+" handed in", fmt.Sprint(g, rows), before)
		same(t, name+" again", call(), first)
	}
}
