package char_test

import (
	"fmt"
	"slices"
	"testing"

	"cayley/abel"
	"cayley/api"
	"cayley/coset"
	"cayley/sub"
	"cayley/table"
)

func TestExamples(t *testing.T) {
	six := given(t, table.Dihedral, 3)
	same(t, "Degrees of Dihedral(3)", degrees(six), answer{degrees: []int{1, 1, 2}})
	same(t, "p of Dihedral(3)", characters(six).prime, 13)
	same(t, "Degrees of Dihedral(4)", degrees(given(t, table.Dihedral, 4)), answer{degrees: []int{1, 1, 1, 1, 2}})
}

func TestAnswersThatAreKnown(t *testing.T) {
	six, two := given(t, table.Dihedral, 3), given(t, table.Cyclic, 2)
	for _, c := range []struct {
		what  string
		g     api.Group
		prime int
		rows  [][]int
	}{
		{"one", given(t, table.Cyclic, 1), 3, [][]int{{1}}},
		{"two", two, 5, [][]int{{1, 1}, {1, 4}}},
		{"two, of which 1 is the one", api.Group{N: 2, Mul: []int{1, 0, 0, 1}}, 5, [][]int{{1, 1}, {4, 1}}},
		{"three", given(t, table.Cyclic, 3), 7, [][]int{{1, 1, 1}, {1, 2, 4}, {1, 4, 2}}},
		{"four", given(t, table.Cyclic, 4), 13, [][]int{{1, 1, 1, 1}, {1, 5, 12, 8}, {1, 8, 12, 5}, {1, 12, 1, 12}}},
		{"two and two", product(t, two, two), 11, [][]int{{1, 1, 1, 1}, {1, 1, 10, 10}, {1, 10, 1, 10}, {1, 10, 10, 1}}},
		{"six", six, 13, [][]int{{1, 1, 1}, {1, 1, 12}, {2, 12, 0}}},
		{"six, called otherwise", renamed(six, func(a int) int { return (a + 4) % 6 }), 13, [][]int{{1, 1, 1}, {1, 12, 1}, {12, 0, 2}}},
		{"square", given(t, table.Dihedral, 4), 17, [][]int{
			{1, 1, 1, 1, 1}, {1, 1, 1, 16, 16}, {1, 16, 1, 1, 16}, {1, 16, 1, 16, 1}, {2, 0, 15, 0, 0},
		}},
		{"quaternions", given(t, table.Dicyclic, 2), 17, [][]int{
			{1, 1, 1, 1, 1}, {1, 1, 1, 16, 16}, {1, 16, 1, 1, 16}, {1, 16, 1, 16, 1}, {2, 0, 15, 0, 0},
		}},
	} {
		same(t, c.what, characters(c.g), answer{prime: c.prime, rows: c.rows})
	}
}

// TestKnownDegrees: those of groups that are well known, and their primes.
func TestKnownDegrees(t *testing.T) {
	for _, c := range []struct {
		what    string
		g       api.Group
		prime   int
		degrees []int
	}{
		{"even ones of five", evenOfFive(t), 151, []int{1, 3, 3, 4, 5}},
		{"even ones of four", evenOfFour(t), 31, []int{1, 1, 1, 3}},
		{"all of four", allOfFour(t), 61, []int{1, 1, 2, 3, 3}},
		{"quaternions", given(t, table.Dicyclic, 2), 17, []int{1, 1, 1, 1, 2}},
		{"five corners", given(t, table.Dihedral, 5), 31, []int{1, 1, 2, 2}},
		{"six and six", product(t, given(t, table.Dihedral, 3), given(t, table.Dihedral, 3)), 73, []int{1, 1, 1, 1, 2, 2, 2, 2, 4}},
		{"lines over five", lines(t, 5, 2), 41, []int{1, 1, 1, 1, 4}},
		{"lines over seven", lines(t, 7, 3), 127, []int{1, 1, 1, 1, 1, 1, 6}},
		{"lines over eight", linesOfEight(t), 113, []int{1, 1, 1, 1, 1, 1, 1, 7}},
		{"some lines over eleven", lines(t, 11, 3), 331, []int{1, 1, 1, 1, 1, 5, 5}},
		{"matrices by three", regularByThree(t), 97, []int{1, 1, 2, 2, 2, 3, 3, 4}},
	} {
		for _, g := range []api.Group{c.g, shuffled(c.g), strewn(c.g)} {
			same(t, c.what, degrees(g), answer{degrees: c.degrees})
			same(t, "p of "+c.what, characters(g).prime, c.prime)
		}
	}
}

// TestByTheWords: p is the least one, each row is a character by the words, the
// rows stand in their order, each once, and are as many as there are classes.
// More there are none: such lists of weights are independent.
func TestByTheWords(t *testing.T) {
	for i, g := range fewClasses(t) {
		what := fmt.Sprint(" of group ", i, ", of ", g.N, " things")
		w, got := wordsOf(g), characters(g)
		same(t, "fault"+what, got.f, api.Fault{})
		same(t, "p"+what, got.prime, primeIn(g))
		same(t, "how many"+what, len(got.rows), len(w.classes))
		for k, row := range got.rows {
			same(t, fmt.Sprint("row ", k, what), w.stray(row, got.prime), "")
			same(t, fmt.Sprint("order of row ", k, what), k == 0 || w.ahead(got.rows[k-1], row), true)
		}
		want := counted(len(got.rows), func(k int) int { return got.rows[k][w.one] })
		same(t, "Degrees"+what, degrees(g), answer{degrees: want})
	}
}

// every has all lists of n numbers below p with 1 at one place.
func every(n, p, one int, yield func(list []int)) {
	list := make([]int, n)
	var fill func(at int)
	fill = func(at int) {
		if at == n {
			yield(list)
			return
		}
		for a := range p {
			if at != one || a == 1 {
				list[at] = a
				fill(at + 1)
			}
		}
	}
	fill(0)
}

// TestAllThereAre: of few classes all lists are gone through.
func TestAllThereAre(t *testing.T) {
	for _, g := range []api.Group{
		given(t, table.Cyclic, 1), given(t, table.Cyclic, 2), given(t, table.Cyclic, 3), given(t, table.Cyclic, 4), given(t, table.Cyclic, 5),
		product(t, given(t, table.Cyclic, 2), given(t, table.Cyclic, 2)), shuffled(given(t, table.Dihedral, 3)), given(t, table.Dihedral, 4),
		given(t, table.Dicyclic, 2), given(t, table.Dihedral, 5), strewn(evenOfFour(t)),
	} {
		w, p := wordsOf(g), primeIn(g)
		var rows [][]int
		every(len(w.classes), p, w.one, func(weights []int) {
			if !w.multiply(weights, p) {
				return
			}
			for d := 1; d <= g.N; d++ {
				row := counted(len(weights), func(i int) int { return divided(weights[i]*d, len(w.classes[i]), p) })
				if w.stray(row, p) == "" {
					rows = append(rows, row)
				}
			}
		})
		slices.SortFunc(rows, func(a, b []int) int {
			if w.ahead(a, b) {
				return -1
			}
			return 1
		})
		same(t, fmt.Sprint("of ", g.N), characters(g), answer{prime: p, rows: rows})
	}
}

// TestSquares: there are as many characters as classes, the squares of all d
// are N, in sum, and each d divides N.
func TestSquares(t *testing.T) {
	for _, g := range fewClasses(t) {
		list, sum := degrees(g).degrees, 0
		for _, d := range list {
			sum += d * d
			same(t, fmt.Sprint(d, " divides ", g.N), g.N%d, 0)
		}
		same(t, "squares", sum, g.N)
		same(t, "how many", len(list), len(classesIn(g)))
		same(t, "they rise or stay", slices.IsSorted(list), true)
	}
}

// TestOrthogonality of each two characters.
func TestOrthogonality(t *testing.T) {
	for _, g := range fewClasses(t) {
		w, got := wordsOf(g), characters(g)
		for i, row := range got.rows {
			for j, other := range got.rows {
				sum := 0
				for k, a := range row {
					sum += len(w.classes[k]) * a * other[w.inverse[k]]
				}
				want := 0
				if i == j {
					want = g.N
				}
				same(t, fmt.Sprint(i, " and ", j, " of ", g.N), sum%got.prime, want)
			}
		}
	}
}

// TestAsManyOfDegreeOne as the commutators' subgroup has cosets.
func TestAsManyOfDegreeOne(t *testing.T) {
	for _, g := range fewClasses(t) {
		commutators, f := sub.Comm(g, first(g.N), first(g.N))
		same(t, "fault", f, api.Fault{})
		cosets, f := coset.Right(g, commutators)
		same(t, "fault", f, api.Fault{})
		ones := slices.DeleteFunc(degrees(g).degrees, func(d int) bool { return d != 1 })
		same(t, fmt.Sprint("of ", g.N), len(ones), len(cosets))
	}
}

// power is a, n times, by p.
func power(a, n, p int) int {
	out := 1
	for range n {
		out = out * a % p
	}
	return out
}

// rootOf is a number of the order e by p, or 0 if there is none.
func rootOf(e, p int) int {
	for z := 1; z < p; z++ {
		order := 1
		for power(z, order, p) != 1 && order < p {
			order++
		}
		if order == e {
			return z
		}
	}
	return 0
}

// TestWhereAllCommute: each class has one thing, and characters are powers of a
// root of one, by the numbers of the characters of chapter 11.
func TestWhereAllCommute(t *testing.T) {
	asked := 0
	for _, g := range fewClasses(t) {
		e, dual, f := abel.Dual(g)
		if f.Code != api.OK {
			continue
		}
		got := characters(g)
		z := rootOf(e, got.prime)
		for i, row := range dual {
			dual[i] = counted(g.N, func(a int) int { return power(z, row[a], got.prime) })
		}
		slices.SortFunc(dual, slices.Compare)
		same(t, fmt.Sprint("of ", g.N), got.rows, dual)
		asked++
	}
	same(t, "how many are asked", asked > 60, true)
}

// TestFixedPoints: where any two points are moved to any two others, how many
// points a thing leaves, less one, is a character.
func TestFixedPoints(t *testing.T) {
	for _, makers := range [][][]int{
		{{1, 0}}, {{1, 0, 2}, {1, 2, 0}}, {{1, 2, 0, 3}, {1, 0, 3, 2}}, {{1, 0, 2, 3}, {1, 2, 3, 0}},
		{{1, 2, 3, 4, 0}, {1, 2, 0, 3, 4}}, {{1, 2, 3, 4, 0}, {0, 2, 4, 1, 3}}, {{1, 2, 3, 4, 5, 6, 0}, {0, 3, 6, 2, 5, 1, 4}},
	} {
		g, things, f := table.Perms(makers)
		same(t, "fault", f, api.Fault{})
		got := characters(g)
		classes := classesIn(g)
		row := counted(len(classes), func(k int) int {
			fixed := 0
			for x, y := range things[classes[k][0]] {
				if x == y {
					fixed++
				}
			}
			return (fixed - 1 + got.prime) % got.prime
		})
		same(t, fmt.Sprint(row, " of ", g.N), slices.ContainsFunc(got.rows, func(l []int) bool { return slices.Equal(l, row) }), true)
	}
}

// TestTurns: of n corners, those with d = 2 are sums of a root and its inverse.
func TestTurns(t *testing.T) {
	for n := 3; n <= 30; n++ {
		g := given(t, table.Dihedral, n)
		got, classes := characters(g), classesIn(g)
		z := rootOf(n, got.prime)
		for k := 1; 2*k < n; k++ {
			row := counted(len(classes), func(i int) int {
				if classes[i][0] >= n {
					return 0
				}
				turn := power(z, k*classes[i][0], got.prime)
				return (turn + divided(1, turn, got.prime)) % got.prime
			})
			same(t, fmt.Sprint(row, " of ", n), slices.ContainsFunc(got.rows, func(l []int) bool { return slices.Equal(l, row) }), true)
		}
	}
}

// TestOtherNames: what things are called changes the classes' numbers alone.
func TestOtherNames(t *testing.T) {
	for _, g := range append(smallGroups(t), evenOfFive(t), regularByThree(t), linesOfEight(t)) {
		name := func(a int) int { return (g.N + 1 - a) % g.N }
		got, other := characters(g), characters(renamed(g, name))
		classes, named := classesIn(g), classesIn(renamed(g, name))
		rows := make([][]int, len(other.rows))
		for i, row := range other.rows {
			rows[i] = counted(len(row), func(k int) int { return row[numberOf(named, name(classes[k][0]))] })
		}
		slices.SortFunc(rows, slices.Compare)
		slices.SortFunc(got.rows, slices.Compare)
		same(t, fmt.Sprint("of ", g.N), answer{prime: other.prime, rows: rows}, got)
	}
}

// TestAnswersAreNew: what is done to an answer touches neither what was handed
// in nor another list of it, nor later answers.
func TestAnswersAreNew(t *testing.T) {
	for _, g := range []api.Group{given(t, table.Dihedral, 6), shuffled(given(t, table.Cyclic, 6)), given(t, table.Cyclic, 1), evenOfFive(t)} {
		before := fmt.Sprint(g)
		lists := func() [][]int { return append(characters(g).rows, degrees(g).degrees) }
		answers := lists()
		asked := fmt.Sprint(answers)
		for i, l := range answers {
			rest := fmt.Sprint(answers[i+1:])
			for k := range l[:cap(l)] {
				l[:cap(l)][k] = -9
			}
			same(t, "apart", answers[i+1:], rest)
		}
		same(t, "again", lists(), asked)
		same(t, "handed in", fmt.Sprint(g), before)
	}
}

// TestAlwaysTheSame: what is answered hangs on the arguments alone.
func TestAlwaysTheSame(t *testing.T) {
	for _, g := range []api.Group{evenOfFive(t), strewn(regularByThree(t)), given(t, table.Cyclic, 24), given(t, table.Cyclic, 30)} {
		for name, call := range calls() {
			asked := fmt.Sprint(call(g))
			for range 5 {
				same(t, name, call(g), asked)
			}
		}
	}
}
