package sylow_test

import (
	"fmt"
	"slices"
	"testing"

	"cayley/api"
	"cayley/quot"
	"cayley/sub"
	"cayley/sylow"
	"cayley/table"
)

func TestExamples(t *testing.T) {
	g := given(t, table.Dihedral, 3)
	same(t, "three by 2", told(sylow.All(g, 2)), right("[[0 3] [0 4] [0 5]]"))
	same(t, "one by 3", told(sylow.All(g, 3)), right("[[0 1 2]]"))
}

func TestAnswersThatAreKnown(t *testing.T) {
	one, square := given(t, table.Cyclic, 1), given(t, table.Dihedral, 4)
	turned := api.Group{N: 2, Mul: []int{1, 0, 0, 1}} // the one is 1
	for _, p := range primes() {
		same(t, fmt.Sprint("of one by ", p), told(sylow.All(one, p)), right("[[0]]"))
		same(t, fmt.Sprint("core of one by ", p), told(sylow.Core(one, p)), right("[0]"))
		same(t, fmt.Sprint("of the order ", p), told(sylow.Cauchy(one, p)), right("[]"))
		if p > 2 {
			same(t, fmt.Sprint("the one alone by ", p), told(sylow.All(turned, p)), right("[[1]]"))
		}
	}
	same(t, "all of two", told(sylow.All(turned, 2)), right("[[0 1]]"))
	same(t, "of the order 2", told(sylow.Cauchy(turned, 2)), right("[0]"))
	same(t, "all of the square", told(sylow.All(square, 2)), right("[[0 1 2 3 4 5 6 7]]"))
	same(t, "its core", told(sylow.Core(square, 2)), right("[0 1 2 3 4 5 6 7]"))
	same(t, "its things of the order 2", told(sylow.Cauchy(square, 2)), right("[2 4 5 6 7]"))
	twelve := given(t, table.Dihedral, 6)
	same(t, "of six corners by 2", told(sylow.All(twelve, 2)), right("[[0 3 6 9] [0 3 7 10] [0 3 8 11]]"))
	same(t, "core of six corners by 2", told(sylow.Core(twelve, 2)), right("[0 3]"))
	same(t, "of six corners by 3", told(sylow.All(twelve, 3)), right("[[0 2 4]]"))
	same(t, "of six corners by 97", told(sylow.All(twelve, 97)), right("[[0]]"))
	prime := given(t, table.Cyclic, 59)
	same(t, "of 59 by 59", told(sylow.All(prime, 59)), right([][]int{allOf(prime)}))
	same(t, "of the order 59", told(sylow.Cauchy(prime, 59)), right(allOf(prime)[1:]))
}

// TestHowMany: numbers that are known.
func TestHowMany(t *testing.T) {
	for _, c := range []struct {
		what string
		n    int
		g    api.Group
		want map[int]int
	}{
		{"even ones of five", 60, evenOfFive(t), map[int]int{2: 5, 3: 10, 5: 6, 7: 1}},
		{"even ones of four", 12, perms(t, []int{1, 2, 0, 3}, []int{1, 0, 3, 2}), map[int]int{2: 1, 3: 4}},
		{"all of four", 24, perms(t, []int{1, 0, 2, 3}, []int{1, 2, 3, 0}), map[int]int{2: 3, 3: 4}},
		{"matrices by three", 48, regularByThree(t, [4]int{1, 1, 0, 1}, [4]int{0, 1, 1, 0}), map[int]int{2: 3, 3: 4}},
		{"lines over seven", 42, lines(t, 7, 3), map[int]int{2: 7, 3: 7, 7: 1}},
		{"lines over eleven", 55, lines(t, 11, 3), map[int]int{5: 11, 11: 1}},
		{"lines over eight", 56, linesOfEight(t), map[int]int{2: 1, 7: 8}},
		{"thirty corners", 60, given(t, table.Dihedral, 30), map[int]int{2: 15, 3: 1, 5: 1}},
		{"of sixty", 60, given(t, table.Cyclic, 60), map[int]int{2: 1, 3: 1, 5: 1, 59: 1}},
	} {
		same(t, c.what, c.g.N, c.n)
		for p, want := range c.want {
			for _, g := range []api.Group{c.g, shuffled(c.g), strewn(c.g)} {
				l, f := sylow.All(g, p)
				same(t, fmt.Sprint(c.what, " by ", p), fmt.Sprint(len(l), f), fmt.Sprint(want, api.Fault{}))
			}
		}
	}
}

// TestByTheWords: held against all subgroups and all orders, found one by one.
func TestByTheWords(t *testing.T) {
	for _, g := range groups(t) {
		subgroups := subgroupsOf(g)
		for _, p := range primes() {
			what := fmt.Sprint(" of ", g.N, " by ", p)
			var things []int
			for a := range g.N {
				if orderIn(g, a) == p {
					things = append(things, a)
				}
			}
			same(t, "Cauchy"+what, told(sylow.Cauchy(g, p)), right(things))
			want := slices.DeleteFunc(slices.Clone(subgroups), func(l []int) bool { return len(l) != powerIn(g.N, p) })
			slices.SortFunc(want, slices.Compare)
			same(t, "All"+what, told(sylow.All(g, p)), right(want))
			same(t, "Core"+what, told(sylow.Core(g, p)), right(inEach(g.N, want)))
		}
	}
}

// TestCauchyFollows: there are things of the order p just where p divides N.
func TestCauchyFollows(t *testing.T) {
	for _, g := range groups(t) {
		for _, p := range primes() {
			l, f := sylow.Cauchy(g, p)
			same(t, fmt.Sprint("of ", g.N, " by ", p), fmt.Sprint(len(l) > 0, f), fmt.Sprint(g.N%p == 0, api.Fault{}))
		}
	}
}

// TestSylowFollows: there are such subgroups, conjugate, as many as must be,
// and each subgroup of a power of p things is in one of them.
func TestSylowFollows(t *testing.T) {
	for _, g := range groups(t) {
		subgroups := subgroupsOf(g)
		for _, p := range []int{2, 3, 5, 7, 11, 59, 61} {
			what := fmt.Sprint(" of ", g.N, " by ", p)
			all, f := sylow.All(g, p)
			same(t, "fault"+what, f, api.Fault{})
			if len(all) == 0 {
				t.Fatalf("there are none%s", what)
			}
			rest := g.N / powerIn(g.N, p)
			same(t, "how many"+what, fmt.Sprint(rest%len(all), len(all)%p), "0 1")
			for _, l := range all {
				is, _ := sub.Is(g, l)
				same(t, "subgroup"+what, is, true)
				conjugate := slices.ContainsFunc(allOf(g), func(a int) bool { return slices.Equal(conjugatedIn(g, all[0], a), l) })
				same(t, "conjugate"+what, conjugate, true)
			}
			for _, m := range subgroups {
				if powerIn(len(m), p) == len(m) {
					in := slices.ContainsFunc(all, func(l []int) bool { return hasAll(l, m) })
					same(t, fmt.Sprint(m, " is in one", what), in, true)
				}
			}
		}
	}
}

// TestCoreIsNormal, and is what is in one of them by whatever it is conjugated.
func TestCoreIsNormal(t *testing.T) {
	for _, g := range groups(t) {
		for _, p := range []int{2, 3, 5, 7, 13} {
			core, f := sylow.Core(g, p)
			same(t, "fault", f, api.Fault{})
			normal, f := sub.Normal(g, core)
			same(t, fmt.Sprint("normal in ", g.N, " by ", p), fmt.Sprint(normal, f), fmt.Sprint(true, api.Fault{}))
			all, _ := sylow.All(g, p)
			of, _ := sub.Core(g, all[0])
			same(t, fmt.Sprint("of one of them in ", g.N, " by ", p), core, of)
		}
	}
}

// TestFrattiniFollows: the Normaliser of one of Sylow's subgroups of the normal
// n makes the group together with n.
func TestFrattiniFollows(t *testing.T) {
	for _, g := range groups(t) {
		for _, n := range normalsOf(t, g) {
			part, f := quot.Part(g, n)
			same(t, "fault", f, api.Fault{})
			for _, p := range []int{2, 3, 5, 7} {
				all, f := sylow.All(part, p)
				same(t, "fault", f, api.Fault{})
				for _, l := range all {
					inGroup := moved(len(l), func(i int) int { return n[l[i]] })
					keeps, f := sub.Normaliser(g, inGroup)
					same(t, "fault", f, api.Fault{})
					same(t, fmt.Sprint(inGroup, " of ", n), len(grownIn(g, append(keeps, n...))), g.N)
				}
			}
		}
	}
}

// normalsOf has the least normal subgroups of each thing and of some two.
func normalsOf(t *testing.T, g api.Group) [][]int {
	t.Helper()
	var out [][]int
	for a := range g.N {
		for _, l := range [][]int{{a}, {a, (a + 5) % g.N}} {
			slices.Sort(l)
			n, f := sub.Closure(g, slices.Compact(l))
			same(t, "fault", f, api.Fault{})
			out = append(out, n)
		}
	}
	slices.SortFunc(out, slices.Compare)
	return slices.CompactFunc(out, slices.Equal)
}

// TestAnswersAreNew: what is done to an answer touches neither what was handed
// in nor another list of it, nor later answers.
func TestAnswersAreNew(t *testing.T) {
	for _, g := range []api.Group{given(t, table.Dihedral, 6), shuffled(given(t, table.Cyclic, 6)), given(t, table.Cyclic, 1), evenOfFive(t)} {
		for _, p := range []int{2, 3, 97} {
			before := fmt.Sprint(g)
			lists := func() [][]int {
				out, _ := sylow.All(g, p)
				things, _ := sylow.Cauchy(g, p)
				core, _ := sylow.Core(g, p)
				return append(out, things, core)
			}
			answers := lists()
			first := fmt.Sprint(answers)
			for i, l := range answers {
				behind := fmt.Sprint(answers[i+1:])
				for k := range l[:cap(l)] {
					l[:cap(l)][k] = -9
				}
				same(t, "apart", answers[i+1:], behind)
			}
			same(t, "again", lists(), first)
			same(t, "handed in", fmt.Sprint(g), before)
		}
	}
}

// TestAlwaysTheSame: the order in which a map is gone through is not to be seen.
func TestAlwaysTheSame(t *testing.T) {
	g := evenOfFive(t)
	for name, call := range calls() {
		for _, p := range []int{2, 3, 5} {
			first := call(g, p)
			for range 20 {
				same(t, fmt.Sprint(name, p), call(g, p), first)
			}
		}
	}
}
