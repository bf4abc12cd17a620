package class_test

import (
	"fmt"
	"math"
	"math/big"
	"slices"
	"testing"

	"cayley/api"
	"cayley/coset"
	"cayley/sub"
	"cayley/table"
)

func TestExamples(t *testing.T) {
	same(t, "Dihedral(3)", all(given(t, table.Dihedral, 3)), answer{classes: [][]int{{0}, {1, 2}, {3, 4, 5}}})
	same(t, "Dihedral(4)", len(all(given(t, table.Dihedral, 4)).classes), 5)
}

func TestAnswersThatAreKnown(t *testing.T) {
	one, six, square := given(t, table.Cyclic, 1), given(t, table.Dihedral, 3), given(t, table.Dihedral, 4)
	same(t, "all of one", all(one), answer{classes: [][]int{{0}}})
	same(t, "times of one", times(one), answer{times: [][][]int{{{1}}}})
	same(t, "pairs of one", pairs(one), answer{pairs: 1})
	same(t, "times of six", times(six), answer{times: [][][]int{
		{{1, 0, 0}, {0, 1, 0}, {0, 0, 1}},
		{{0, 1, 0}, {2, 1, 0}, {0, 0, 2}},
		{{0, 0, 1}, {0, 0, 2}, {3, 3, 0}},
	}})
	same(t, "squares of six", powers(six, 2), answer{powers: []int{0, 1, 0}})
	same(t, "third powers of six", powers(six, 3), answer{powers: []int{0, 0, 2}})
	same(t, "pairs of six", pairs(six), answer{pairs: 18})
	same(t, "all of the square", all(square), answer{classes: [][]int{{0}, {1, 3}, {2}, {4, 6}, {5, 7}}})
	same(t, "the square's squares", powers(square, 2), answer{powers: []int{0, 2, 0, 0, 0}})
	same(t, "pairs of the square", pairs(square), answer{pairs: 40})
	turned := api.Group{N: 2, Mul: []int{1, 0, 0, 1}} // the one is 1
	same(t, "all of two", all(turned), answer{classes: [][]int{{0}, {1}}})
	same(t, "times of two", times(turned), answer{times: [][][]int{{{0, 1}, {1, 0}}, {{1, 0}, {0, 1}}}})
	same(t, "no power of two", powers(turned, 0), answer{powers: []int{1, 1}})
	same(t, "first power of two", powers(turned, 1), answer{powers: []int{0, 1}})
	three := given(t, table.Cyclic, 3)
	same(t, "inverses of three", powers(three, -1), answer{powers: []int{0, 2, 1}})
	same(t, "of six, called otherwise", all(renamed(six, func(a int) int { return (a + 4) % 6 })), answer{classes: [][]int{{0, 5}, {1, 2, 3}, {4}}})
}

// TestHowMany: sizes of classes that are known.
func TestHowMany(t *testing.T) {
	for _, c := range []struct {
		what  string
		g     api.Group
		sizes []int
	}{
		{"even ones of five", evenOfFive(t), []int{1, 12, 12, 15, 20}},
		{"even ones of four", evenOfFour(t), []int{1, 3, 4, 4}},
		{"all of four", allOfFour(t), []int{1, 3, 6, 6, 8}},
		{"quaternions", given(t, table.Dicyclic, 2), []int{1, 1, 2, 2, 2}},
		{"five corners", given(t, table.Dihedral, 5), []int{1, 2, 2, 5}},
		{"lines over seven", lines(t, 7, 3), []int{1, 6, 7, 7, 7, 7, 7}},
		{"lines over eight", linesOfEight(t), []int{1, 7, 8, 8, 8, 8, 8, 8}},
		{"matrices by three", regularByThree(t), []int{1, 1, 6, 6, 6, 8, 8, 12}},
	} {
		for _, g := range []api.Group{c.g, shuffled(c.g), strewn(c.g)} {
			classes := all(g).classes
			sizes := counted(len(classes), func(i int) int { return len(classes[i]) })
			slices.Sort(sizes)
			same(t, c.what, sizes, c.sizes)
		}
	}
}

// TestByTheWords: held against all pairs and all powers, found one by one.
func TestByTheWords(t *testing.T) {
	for i, g := range groups(t) {
		what := fmt.Sprint(" of group ", i, ", of ", g.N, " things")
		classes := classesIn(g)
		same(t, "All"+what, all(g), answer{classes: classes})
		same(t, "Pairs"+what, pairs(g), answer{pairs: pairsIn(g)})
		if len(classes) > 24 {
			same(t, "Times"+what, times(g), refused(fault(api.ErrMany, 0)))
		} else {
			same(t, "Times"+what, times(g), answer{times: timesIn(classes, g)})
		}
		for _, n := range []int{-61, -7, -3, -2, -1, 0, 1, 2, 3, 4, 5, 6, 30, 59, 60, 61, 100} {
			want := counted(len(classes), func(k int) int { return numberOf(classes, powerIn(g, classes[k][0], n)) })
			same(t, fmt.Sprint("Powers by ", n, what), powers(g, n), answer{powers: want})
		}
	}
}

// TestPowersOfEachThing: whichever thing of a class is asked, and however far
// off n is, its Pow is in the class that is told.
func TestPowersOfEachThing(t *testing.T) {
	list := append(largeGroups(t), given(t, table.Cyclic, 1), given(t, table.Cyclic, 12), given(t, table.Dihedral, 4), given(t, table.Dicyclic, 3))
	for i, g := range list {
		g = strewn(g)
		classes := classesIn(g)
		n := []int{math.MinInt, math.MinInt + 1, -1, math.MaxInt, math.MaxInt - 1, 1 << 40}[i%6]
		got := powers(g, n)
		same(t, "fault", got.f, api.Fault{})
		for k, l := range classes {
			for _, a := range l {
				power, f := table.Pow(g, a, n)
				same(t, "fault", f, api.Fault{})
				same(t, fmt.Sprint(a, " by ", n, " of ", g.N), got.powers[k], numberOf(classes, power))
			}
		}
	}
}

// TestPowersFarOff: of each n they are what they are of what is left of it by N.
func TestPowersFarOff(t *testing.T) {
	list := []api.Group{evenOfFive(t), given(t, table.Cyclic, 59), given(t, table.Dicyclic, 15), shuffled(given(t, table.Cyclic, 7)), given(t, table.Cyclic, 1)}
	for _, g := range list {
		for shift := range 64 {
			for _, n := range []int{1<<shift - 1, 1 << shift, 1<<shift + 1, -1 << shift, -1<<shift + 1, math.MaxInt - shift, math.MinInt + shift} {
				left := new(big.Int).Mod(big.NewInt(int64(n)), big.NewInt(int64(g.N))).Int64()
				same(t, fmt.Sprint("by ", n, " of ", g.N), powers(g, n), powers(g, int(left)))
			}
		}
	}
}

// TestClassesAreAsManyAsCosets of what commutes with one of their things; so
// all of g are counted.
func TestClassesAreAsManyAsCosets(t *testing.T) {
	for _, g := range append(largeGroups(t), smallGroups(t)...) {
		g = strewn(g)
		counted := 0
		for _, l := range all(g).classes {
			for _, x := range l {
				central, f := sub.Central(g, []int{x})
				same(t, "fault", f, api.Fault{})
				cosets, f := coset.Right(g, central)
				same(t, "fault", f, api.Fault{})
				same(t, fmt.Sprint("class of ", x, " of ", g.N), len(l), len(cosets))
			}
			counted += len(l)
		}
		same(t, "all things", counted, g.N)
	}
}

// TestClassesPartTheGroup: each thing is in one of them, and they rise.
func TestClassesPartTheGroup(t *testing.T) {
	for _, g := range groups(t) {
		classes := all(g).classes
		things := slices.Concat(classes...)
		slices.Sort(things)
		same(t, "each once", things, first(g.N))
		least := counted(len(classes), func(k int) int { return classes[k][0] })
		same(t, "by their least things", slices.IsSorted(least), true)
		for _, l := range classes {
			same(t, "rises", slices.IsSorted(l), true)
		}
	}
}

// TestPairsAreNTimesTheClasses, just all where things always commute.
func TestPairsAreNTimesTheClasses(t *testing.T) {
	for _, g := range groups(t) {
		same(t, fmt.Sprint("of ", g.N), pairs(g), answer{pairs: g.N * len(all(g).classes)})
		abelian, f := table.Abelian(g)
		same(t, "fault", f, api.Fault{})
		same(t, fmt.Sprint("all of ", g.N), pairs(g).pairs == g.N*g.N, abelian)
	}
}

// TestTimesCountsAllProducts: each pair of a thing of i and one of j has one
// product, and there are as many ways to each thing of a class.
func TestTimesCountsAllProducts(t *testing.T) {
	for _, g := range groups(t) {
		classes, ways := all(g).classes, times(g).times
		for i := range ways {
			for j := range ways[i] {
				products := 0
				for k, n := range ways[i][j] {
					products += n * len(classes[k])
				}
				same(t, fmt.Sprint(i, " by ", j, " of ", g.N), products, len(classes[i])*len(classes[j]))
				same(t, "either way", ways[i][j], ways[j][i])
			}
		}
	}
}

// TestAnswersAreNew: what is done to an answer touches neither what was handed
// in nor another list of it, nor later answers.
func TestAnswersAreNew(t *testing.T) {
	for _, g := range []api.Group{given(t, table.Dihedral, 6), shuffled(given(t, table.Cyclic, 6)), given(t, table.Cyclic, 1), evenOfFive(t)} {
		before := fmt.Sprint(g)
		lists := func() [][]int {
			return append(slices.Concat(append(times(g).times, all(g).classes)...), powers(g, -1).powers)
		}
		answers := lists()
		asked := fmt.Sprint(answers)
		for i, l := range answers {
			rest := fmt.Sprint(answers[i+1:])
			for k := range l[:cap(l)] {
				l[:cap(l)][k] = -9
			}
			same(t, "apart", answers[i+1:], rest)
		}
		same(t, "again", lists(), asked)
		same(t, "handed in", fmt.Sprint(g), before)
		rowsApart(t, times(g).times)
	}
}

// rowsApart: what is done to the lists of lists touches no other one, either.
func rowsApart(t *testing.T, ways [][][]int) {
	t.Helper()
	for i, rows := range ways {
		rest := fmt.Sprint(ways[i+1:])
		for k := range rows[:cap(rows)] {
			rows[:cap(rows)][k] = nil
		}
		same(t, "rows apart", ways[i+1:], rest)
	}
}

// TestAlwaysTheSame: what is answered hangs on the arguments alone.
func TestAlwaysTheSame(t *testing.T) {
	for _, g := range []api.Group{evenOfFive(t), strewn(regularByThree(t)), given(t, table.Cyclic, 30)} {
		for name, call := range calls() {
			for _, n := range numbers() {
				asked := fmt.Sprint(call(g, n))
				same(t, fmt.Sprint(name, n), call(g, n), asked)
			}
		}
	}
}
