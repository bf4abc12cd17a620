package series_test

import (
	"fmt"
	"slices"
	"testing"

	"cayley/api"
	"cayley/series"
	"cayley/sub"
	"cayley/sylow"
	"cayley/table"
)

func TestExamples(t *testing.T) {
	g := given(t, table.Dihedral, 3)
	same(t, "Derived", toldSets(series.Derived(g)), answer{sets: [][]int{{0, 1, 2, 3, 4, 5}, {0, 1, 2}, {0}}})
	same(t, "Lower", toldSets(series.Lower(g)), answer{sets: [][]int{{0, 1, 2, 3, 4, 5}, {0, 1, 2}}})
	same(t, "Upper", toldSets(series.Upper(g)), answer{sets: [][]int{{0}}})
}

func TestAnswersOfOneThing(t *testing.T) {
	one := given(t, table.Cyclic, 1)
	for name, call := range ofGroup() {
		if name == "Solvable" || name == "Nilpotent" {
			same(t, name, call(one), answer{is: true})
		} else {
			same(t, name, call(one), answer{sets: [][]int{{0}}})
		}
	}
	same(t, "Factors", factors(one, [][]int{{0}}), answer{})
}

func TestAnswersThatAreKnown(t *testing.T) {
	turned := api.Group{N: 2, Mul: []int{1, 0, 0, 1}} // the one is 1
	down, up := answer{sets: [][]int{{0, 1}, {1}}}, answer{sets: [][]int{{1}, {0, 1}}}
	same(t, "Derived of two", toldSets(series.Derived(turned)), down)
	same(t, "Lower of two", toldSets(series.Lower(turned)), down)
	same(t, "Upper of two", toldSets(series.Upper(turned)), up)
	same(t, "Composition of two", toldSets(series.Composition(turned)), down)
	same(t, "Factors of two", factors(turned, [][]int{{0, 1}, {1}}), answer{sizes: []int{2}})
	for _, g := range []api.Group{given(t, table.Dihedral, 4), given(t, table.Dicyclic, 2)} {
		down := answer{sets: [][]int{{0, 1, 2, 3, 4, 5, 6, 7}, {0, 2}, {0}}}
		up := answer{sets: [][]int{{0}, {0, 2}, {0, 1, 2, 3, 4, 5, 6, 7}}}
		same(t, "Derived of eight", toldSets(series.Derived(g)), down)
		same(t, "Lower of eight", toldSets(series.Lower(g)), down)
		same(t, "Upper of eight", toldSets(series.Upper(g)), up)
	}
	six := given(t, table.Cyclic, 6)
	same(t, "2 and 3", factors(six, [][]int{{0, 1, 2, 3, 4, 5}, {0, 2, 4}, {0}}), answer{sizes: []int{2, 3}})
	same(t, "3 and 2", factors(six, [][]int{{0, 1, 2, 3, 4, 5}, {0, 3}, {0}}), answer{sizes: []int{2, 3}})
	even := evenOfFive(t)
	whole, alone := allOf(even), []int{oneIn(even)}
	same(t, "Derived of 60", toldSets(series.Derived(even)), answer{sets: [][]int{whole}})
	same(t, "Lower of 60", toldSets(series.Lower(even)), answer{sets: [][]int{whole}})
	same(t, "Upper of 60", toldSets(series.Upper(even)), answer{sets: [][]int{alone}})
	same(t, "Composition of 60", toldSets(series.Composition(even)), answer{sets: [][]int{whole, alone}})
	same(t, "Factors of 60", factors(even, [][]int{whole, alone}), answer{sizes: []int{60}})
	same(t, "Solvable", toldIs(series.Solvable(even)), answer{})
	same(t, "Nilpotent", toldIs(series.Nilpotent(even)), answer{})
}

// TestHowMany: how many things sets have that are known.
func TestHowMany(t *testing.T) {
	four := perms(t, []int{1, 0, 2, 3}, []int{1, 2, 3, 0})
	six := given(t, table.Dihedral, 3)
	for _, c := range []struct {
		what                  string
		g                     api.Group
		derived, lower, upper string
		sizes                 []int
	}{
		{"all of four", four, "[24 12 4 1]", "[24 12]", "[1]", []int{2, 2, 2, 3}},
		{"even ones of four", perms(t, []int{1, 2, 0, 3}, []int{1, 0, 3, 2}), "[12 4 1]", "[12 4]", "[1]", []int{2, 2, 3}},
		{"two times all of four", times(t, given(t, table.Cyclic, 2), four), "[48 12 4 1]", "[48 12]", "[1 2]", []int{2, 2, 2, 2, 3}},
		{"sixteen corners", given(t, table.Dihedral, 16), "[32 8 1]", "[32 8 4 2 1]", "[1 2 4 8 32]", []int{2, 2, 2, 2, 2}},
		{"six times four", times(t, six, given(t, table.Dihedral, 4)), "[48 6 1]", "[48 6 3]", "[1 2 8]", []int{2, 2, 2, 2, 3}},
		{"six times six", times(t, six, six), "[36 9 1]", "[36 9]", "[1]", []int{2, 2, 3, 3}},
		{"matrices by three", regularByThree(t, [4]int{1, 1, 0, 1}, [4]int{0, 1, 1, 0}), "[48 24 8 2 1]", "[48 24]", "[1 2]", []int{2, 2, 2, 2, 3}},
		{"lines over seven", lines(t, 7, 3), "[42 7 1]", "[42 7]", "[1]", []int{2, 3, 7}},
		{"lines over eight", linesOfEight(t), "[56 8 1]", "[56 8]", "[1]", []int{2, 2, 2, 7}},
		{"of sixty", given(t, table.Cyclic, 60), "[60 1]", "[60 1]", "[1 60]", []int{2, 2, 3, 5}},
		{"of 59", given(t, table.Cyclic, 59), "[59 1]", "[59 1]", "[1 59]", []int{59}},
		{"even ones of five", evenOfFive(t), "[60]", "[60]", "[1]", []int{60}},
	} {
		for _, g := range []api.Group{c.g, shuffled(c.g), strewn(c.g)} {
			derived, _ := series.Derived(g)
			lower, _ := series.Lower(g)
			upper, _ := series.Upper(g)
			sizes := factors(g, toldSets(series.Composition(g)).sets)
			same(t, c.what, fmt.Sprint(sizesOf(derived), sizesOf(lower), sizesOf(upper)), c.derived+" "+c.lower+" "+c.upper)
			same(t, c.what+": factors", sizes, answer{sizes: c.sizes})
		}
	}
}

// TestByTheWords: held against commutators that are looked for one by one.
func TestByTheWords(t *testing.T) {
	for _, g := range groups(t) {
		what := fmt.Sprint(" of ", g.N)
		derived, lower := derivedOf(g), lowerOf(g)
		same(t, "Derived"+what, toldSets(series.Derived(g)), answer{sets: derived})
		same(t, "Lower"+what, toldSets(series.Lower(g)), answer{sets: lower})
		same(t, "Upper"+what, toldSets(series.Upper(g)), answer{sets: upperOf(g)})
		alone := []int{oneIn(g)}
		same(t, "Solvable"+what, toldIs(series.Solvable(g)), answer{is: slices.Equal(derived[len(derived)-1], alone)})
		same(t, "Nilpotent"+what, toldIs(series.Nilpotent(g)), answer{is: slices.Equal(lower[len(lower)-1], alone)})
	}
}

// TestComposition: what is answered is a composition series, whichever it is.
func TestComposition(t *testing.T) {
	for _, g := range groups(t) {
		got := toldSets(series.Composition(g))
		same(t, "fault", got.f, api.Fault{})
		want := factorsOf(g, subgroupsOf(g), got.sets)
		same(t, fmt.Sprint("a composition series of ", g.N), want.f, api.Fault{})
		same(t, fmt.Sprint("Factors of ", g.N), factors(g, got.sets), want)
	}
}

// TestJordanAndHoelderFollow: all composition series have the same Factors.
func TestJordanAndHoelderFollow(t *testing.T) {
	many := 0
	for _, g := range groups(t) {
		subgroups := subgroupsOf(g)
		own := factors(g, toldSets(series.Composition(g)).sets)
		same(t, "all things", product(own.sizes), g.N)
		all := compositionsOf(g, subgroups, 40)
		many += len(all)
		for _, l := range all {
			same(t, fmt.Sprint("Factors of ", l), factors(g, l), own)
			same(t, fmt.Sprint("by the words ", l), factorsOf(g, subgroups, l), own)
		}
	}
	same(t, "there are many", many > 400, true)
}

// sylowNormal: are all of Sylow's subgroups normal?
func sylowNormal(t *testing.T, g api.Group) bool {
	t.Helper()
	for p := 2; p <= g.N; p++ {
		if !isPrime(p) {
			continue
		}
		all, f := sylow.All(g, p)
		same(t, "fault", f, api.Fault{})
		for _, l := range all {
			if normal, _ := sub.Normal(g, l); !normal {
				return false
			}
		}
	}
	return true
}

// TestNilpotentFollows: it is so just where all of Sylow's subgroups are
// normal; then Lower and Upper have as many sets, and it is solvable.
func TestNilpotentFollows(t *testing.T) {
	count := map[bool]int{}
	for _, g := range groups(t) {
		what := fmt.Sprint(" of ", g.N)
		nilpotent := toldIs(series.Nilpotent(g))
		same(t, "Nilpotent"+what, nilpotent, answer{is: sylowNormal(t, g)})
		count[nilpotent.is]++
		upper, f := series.Upper(g)
		same(t, "fault", f, api.Fault{})
		same(t, "Upper ends with all"+what, len(upper[len(upper)-1]) == g.N, nilpotent.is)
		if nilpotent.is {
			lower, _ := series.Lower(g)
			same(t, "as many sets"+what, len(upper), len(lower))
			same(t, "Solvable"+what, toldIs(series.Solvable(g)), answer{is: true})
		}
	}
	same(t, "some of both kinds", count[true] > 20 && count[false] > 20, true)
}

// TestSolvableFollows: it is so just where all Factors are primes.
func TestSolvableFollows(t *testing.T) {
	count := map[bool]int{}
	for _, g := range groups(t) {
		sizes := factors(g, toldSets(series.Composition(g)).sets)
		same(t, "fault", sizes.f, api.Fault{})
		primes := !slices.ContainsFunc(sizes.sizes, func(n int) bool { return !isPrime(n) })
		same(t, fmt.Sprint("Solvable of ", g.N), toldIs(series.Solvable(g)), answer{is: primes})
		count[primes]++
	}
	same(t, "some of both kinds", count[true] > 20 && count[false] > 1, true)
}

// TestSetsAreNormal: each set of Derived, Lower and Upper is a normal subgroup
// of g, and each one is in the one ahead or has it.
func TestSetsAreNormal(t *testing.T) {
	for _, g := range groups(t) {
		derived, _ := series.Derived(g)
		lower, _ := series.Lower(g)
		upper, _ := series.Upper(g)
		slices.Reverse(upper)
		for _, sets := range [][][]int{derived, lower, upper} {
			for i, l := range sets {
				normal, f := sub.Normal(g, l)
				same(t, fmt.Sprint("normal in ", g.N), fmt.Sprint(normal, f), fmt.Sprint(true, api.Fault{}))
				same(t, fmt.Sprint("less than ahead in ", g.N), i == 0 || len(l) < len(sets[i-1]) && hasAll(sets[i-1], l), true)
			}
		}
	}
}

// TestAnswersAreNew: what is done to an answer touches neither what was handed
// in nor another list of it, nor later answers.
func TestAnswersAreNew(t *testing.T) {
	for _, g := range []api.Group{given(t, table.Dihedral, 4), shuffled(given(t, table.Cyclic, 6)), given(t, table.Cyclic, 1), evenOfFive(t)} {
		l := toldSets(series.Composition(g)).sets
		before := fmt.Sprint(g, l)
		calls := ofGroup()
		calls["Factors"] = func(g api.Group) answer { return factors(g, l) }
		for name, call := range calls {
			got := call(g)
			first := fmt.Sprint(got)
			lists := append(got.sets, got.sizes)
			for i, list := range lists {
				behind := fmt.Sprint(lists[i+1:])
				for k := range list[:cap(list)] {
					list[:cap(list)][k] = -9
				}
				same(t, name+" apart", lists[i+1:], behind)
			}
			same(t, name+" handed in", fmt.Sprint(g, l), before)
			if name != "Composition" { // which one it answers is free
				same(t, name+" again", call(g), first)
			}
		}
	}
}
