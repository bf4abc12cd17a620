package series_test

import (
	"fmt"
	"slices"
	"testing"

	"cayley/api"
	"cayley/series"
	"cayley/table"
)

func fault(code, at int) api.Fault { return api.Fault{Code: code, At: at} }

// same holds two answers against each other; an empty list is a nil list.
func same(t *testing.T, what string, got, want any) {
	t.Helper()
	if fmt.Sprint(got) != fmt.Sprint(want) {
		t.Errorf("%s: %v, want %v", what, got, want)
	}
}

// answer is what a call answers; what it does not answer is empty.
type answer struct {
	sets  [][]int
	sizes []int
	is    bool
	f     api.Fault
}

func toldSets(sets [][]int, f api.Fault) answer { return answer{sets: sets, f: f} }

func toldSizes(sizes []int, f api.Fault) answer { return answer{sizes: sizes, f: f} }

func toldIs(is bool, f api.Fault) answer { return answer{is: is, f: f} }

// refused is the answer that has this fault, and nothing beside it.
func refused(f api.Fault) answer { return answer{f: f} }

// ofGroup are the calls of a group alone.
func ofGroup() map[string]func(g api.Group) answer {
	return map[string]func(g api.Group) answer{
		"Derived":     func(g api.Group) answer { return toldSets(series.Derived(g)) },
		"Lower":       func(g api.Group) answer { return toldSets(series.Lower(g)) },
		"Upper":       func(g api.Group) answer { return toldSets(series.Upper(g)) },
		"Solvable":    func(g api.Group) answer { return toldIs(series.Solvable(g)) },
		"Nilpotent":   func(g api.Group) answer { return toldIs(series.Nilpotent(g)) },
		"Composition": func(g api.Group) answer { return toldSets(series.Composition(g)) },
	}
}

func factors(g api.Group, l [][]int) answer { return toldSizes(series.Factors(g, l)) }

// given makes a group, or ends the test.
func given(t *testing.T, make func(n int) (api.Group, api.Fault), n int) api.Group {
	t.Helper()
	g, f := make(n)
	if f != (api.Fault{}) {
		t.Fatalf("of %d: %v", n, f)
	}
	return g
}

// perms is the group that permutations make.
func perms(t *testing.T, makers ...[]int) api.Group {
	t.Helper()
	g, _, f := table.Perms(makers)
	same(t, "fault", f, api.Fault{})
	return g
}

// evenOfFive has the even permutations of five points.
func evenOfFive(t *testing.T) api.Group {
	t.Helper()
	return perms(t, []int{1, 2, 3, 4, 0}, []int{1, 2, 0, 3, 4})
}

// moved is the permutation that moves each x below n to to(x).
func moved(n int, to func(x int) int) []int {
	p := make([]int, n)
	for x := range p {
		p[x] = to(x)
	}
	return p
}

// lines has x to k^i x + j, for all i and j, by the prime n.
func lines(t *testing.T, n, k int) api.Group {
	t.Helper()
	return perms(t, moved(n, func(x int) int { return (x + 1) % n }), moved(n, func(x int) int { return k * x % n }))
}

// linesOfEight has the lines over the field of eight: 56 things.
func linesOfEight(t *testing.T) api.Group {
	t.Helper()
	return perms(t, moved(8, func(x int) int { return x ^ 1 }), moved(8, func(x int) int { return (x<<1 ^ x>>2*11) & 7 }))
}

// regularByThree has what regular matrices of two rows over three numbers make,
// as permutations of the nine columns.
func regularByThree(t *testing.T, makers ...[4]int) api.Group {
	t.Helper()
	var list [][]int
	for _, m := range makers {
		list = append(list, moved(9, func(v int) int {
			return (m[0]*(v/3)+m[1]*(v%3))%3*3 + (m[2]*(v/3)+m[3]*(v%3))%3
		}))
	}
	return perms(t, list...)
}

// times is the product of some groups.
func times(t *testing.T, first api.Group, others ...api.Group) api.Group {
	t.Helper()
	for _, g := range others {
		var f api.Fault
		first, f = table.Product(first, g)
		same(t, "fault", f, api.Fault{})
	}
	return first
}

// renamed calls each thing a of g by the number name(a).
func renamed(g api.Group, name func(a int) int) api.Group {
	out := api.Group{N: g.N, Mul: make([]int, g.N*g.N)}
	for a := range g.N {
		for b := range g.N {
			out.Mul[name(a)*g.N+name(b)] = name(of(g, a, b))
		}
	}
	return out
}

// shuffled calls the things of g by other numbers, so that the one is not 0.
func shuffled(g api.Group) api.Group {
	return renamed(g, func(a int) int { return (g.N + 1 - a) % g.N })
}

// strewn calls them by other numbers in a less plain way.
func strewn(g api.Group) api.Group {
	step := 7
	for ; gcd(step, g.N) > 1; step++ {
	}
	return renamed(g, func(a int) int { return (step*a + g.N/2) % g.N })
}

func gcd(a, b int) int {
	for b > 0 {
		a, b = b, a%b
	}
	return a
}

// groups have up to 60 things, each by some of three ways to call its things.
func groups(t *testing.T) []api.Group {
	t.Helper()
	two, three, six := given(t, table.Cyclic, 2), given(t, table.Cyclic, 3), given(t, table.Dihedral, 3)
	evenOfFour := perms(t, []int{1, 2, 0, 3}, []int{1, 0, 3, 2})
	four := perms(t, []int{1, 0, 2, 3}, []int{1, 2, 3, 0})
	list := []api.Group{
		given(t, table.Cyclic, 1), two, three, given(t, table.Cyclic, 4), given(t, table.Cyclic, 12),
		given(t, table.Cyclic, 49), given(t, table.Cyclic, 59), given(t, table.Cyclic, 60),
		given(t, table.Dihedral, 2), six, given(t, table.Dihedral, 4), given(t, table.Dihedral, 6), given(t, table.Dihedral, 9),
		given(t, table.Dihedral, 15), given(t, table.Dihedral, 16), given(t, table.Dihedral, 30),
		given(t, table.Dicyclic, 2), given(t, table.Dicyclic, 3), given(t, table.Dicyclic, 9), given(t, table.Dicyclic, 15),
		times(t, two, two, two, two, two), times(t, three, three), times(t, three, three, three), times(t, six, six),
		times(t, three, six), times(t, two, four), times(t, two, two, evenOfFour), times(t, given(t, table.Cyclic, 5), evenOfFour),
		evenOfFour, four, evenOfFive(t), times(t, three, given(t, table.Dihedral, 8)), times(t, given(t, table.Cyclic, 5), given(t, table.Dicyclic, 2)),
		lines(t, 5, 2), lines(t, 7, 2), lines(t, 7, 3), lines(t, 11, 3), lines(t, 13, 3), lines(t, 13, 5), lines(t, 19, 7), linesOfEight(t),
		regularByThree(t, [4]int{1, 1, 0, 1}, [4]int{0, 1, 1, 0}), regularByThree(t, [4]int{1, 1, 0, 1}, [4]int{1, 0, 1, 1}),
	}
	var out []api.Group
	for i, g := range list {
		if i%2 == 0 {
			out = append(out, g, shuffled(g))
		} else {
			out = append(out, g, strewn(g))
		}
	}
	return out
}

// What follows tells the chapter's words again, without the program.

func of(g api.Group, a, b int) int { return g.Mul[a*g.N+b] }

func oneIn(g api.Group) int {
	for e := range g.N {
		if of(g, e, e) == e {
			return e
		}
	}
	return -1
}

func allOf(g api.Group) []int { return moved(g.N, func(a int) int { return a }) }

// commutatorIn is the x with b a x = a b.
func commutatorIn(g api.Group, a, b int) int {
	for x := range g.N {
		if of(g, of(g, b, a), x) == of(g, a, b) {
			return x
		}
	}
	return -1
}

// grownIn takes products until there are no new ones.
func grownIn(g api.Group, l []int) []int {
	out := []int{oneIn(g)}
	for at := 0; at < len(out); at++ {
		for _, a := range l {
			if c := of(g, out[at], a); !slices.Contains(out, c) {
				out = append(out, c)
			}
		}
	}
	slices.Sort(out)
	return out
}

// commutatorsIn is the subgroup that the commutators of l's and m's things make.
func commutatorsIn(g api.Group, l, m []int) []int {
	var all []int
	for _, a := range l {
		for _, b := range m {
			all = append(all, commutatorIn(g, a, b))
		}
	}
	return grownIn(g, slices.Compact(slices.Sorted(slices.Values(all))))
}

// followed has first, and what comes behind the last one, until it is the same.
func followed(first []int, next func(last []int) []int) [][]int {
	out := [][]int{first}
	for l := next(first); !slices.Equal(l, out[len(out)-1]); l = next(l) {
		out = append(out, l)
	}
	return out
}

func derivedOf(g api.Group) [][]int {
	return followed(allOf(g), func(last []int) []int { return commutatorsIn(g, last, last) })
}

func lowerOf(g api.Group) [][]int {
	return followed(allOf(g), func(last []int) []int { return commutatorsIn(g, last, allOf(g)) })
}

func upperOf(g api.Group) [][]int {
	return followed([]int{oneIn(g)}, func(last []int) []int {
		return slices.DeleteFunc(allOf(g), func(a int) bool {
			return slices.ContainsFunc(allOf(g), func(b int) bool { return !slices.Contains(last, commutatorIn(g, a, b)) })
		})
	})
}

// subgroupsOf are all subgroups: each is made by one that is less and a thing.
func subgroupsOf(g api.Group) [][]int {
	out := [][]int{{oneIn(g)}}
	seen := map[string]bool{fmt.Sprint(out[0]): true}
	for at := 0; at < len(out); at++ {
		for a := range g.N {
			if slices.Contains(out[at], a) {
				continue
			}
			l := grownIn(g, append(slices.Clone(out[at]), a))
			if text := fmt.Sprint(l); !seen[text] {
				seen[text] = true
				out = append(out, l)
			}
		}
	}
	return out
}

// hasAll: is each thing of m one of l?
func hasAll(l, m []int) bool {
	return !slices.ContainsFunc(m, func(a int) bool { return !slices.Contains(l, a) })
}

// normalIn: is the subgroup l the same, conjugated by any thing of whole? (So
// is each l a = a l.)
func normalIn(g api.Group, whole, l []int) bool {
	for _, a := range whole {
		var right, left []int
		for _, x := range l {
			right, left = append(right, of(g, x, a)), append(left, of(g, a, x))
		}
		if !hasAll(right, left) {
			return false
		}
	}
	return true
}

// between are the subgroups that have less than whole and more than l, and are
// normal in whole.
func between(g api.Group, subgroups [][]int, whole, l []int) [][]int {
	var out [][]int
	for _, m := range subgroups {
		if len(m) > len(l) && len(m) < len(whole) && hasAll(whole, m) && hasAll(m, l) && normalIn(g, whole, m) {
			out = append(out, m)
		}
	}
	return out
}

// simpleBy: has whole, by the normal l, a simple quotient? (Its normal
// subgroups are those between them, by l.)
func simpleBy(g api.Group, subgroups [][]int, whole, l []int) bool {
	return len(whole) > len(l) && len(between(g, subgroups, whole, l)) == 0
}

// factorsOf is what Factors must answer of a group without faults, word by word.
func factorsOf(g api.Group, subgroups [][]int, l [][]int) answer {
	if len(l) < 1 || len(l) > 10 {
		return refused(fault(api.ErrMany, 0))
	}
	if len(l[0]) != g.N || len(l[len(l)-1]) != 1 {
		return refused(fault(api.ErrSize, 0))
	}
	for i, s := range l {
		if !slices.ContainsFunc(subgroups, func(h []int) bool { return slices.Equal(h, s) }) {
			return refused(fault(api.ErrForm, i))
		}
	}
	var sizes []int
	for i, s := range l[1:] {
		switch {
		case !hasAll(l[i], s):
			return refused(fault(api.ErrFalse, i+1))
		case !normalIn(g, l[i], s):
			return refused(fault(api.ErrKind, i+1))
		case !simpleBy(g, subgroups, l[i], s):
			return refused(fault(api.ErrNone, i+1))
		}
		sizes = append(sizes, len(l[i])/len(s))
	}
	slices.Sort(sizes)
	return answer{sizes: sizes}
}

// compositionsOf has composition series of g, each once: all of them, or some
// where they are more than most.
func compositionsOf(g api.Group, subgroups [][]int, most int) [][][]int {
	below := map[string][][]int{}
	under := func(whole []int) [][]int {
		text := fmt.Sprint(whole)
		if below[text] == nil {
			for _, l := range append(between(g, subgroups, whole, []int{oneIn(g)}), []int{oneIn(g)}) {
				if simpleBy(g, subgroups, whole, l) {
					below[text] = append(below[text], l)
				}
			}
		}
		return below[text]
	}
	var out [][][]int
	var down func(l [][]int)
	down = func(l [][]int) {
		last := l[len(l)-1]
		if len(last) == 1 {
			out = append(out, slices.Clone(l))
			return
		}
		for _, s := range under(last) {
			if len(out) < most {
				down(append(l, s))
			}
		}
	}
	down([][]int{allOf(g)})
	return out
}

func isPrime(n int) bool {
	for d := 2; d < n; d++ {
		if n%d == 0 {
			return false
		}
	}
	return n > 1
}

// product is that of all numbers of a list.
func product(l []int) int {
	out := 1
	for _, n := range l {
		out *= n
	}
	return out
}

// sizesOf has how many things each set has.
func sizesOf(sets [][]int) []int {
	return moved(len(sets), func(i int) int { return len(sets[i]) })
}
