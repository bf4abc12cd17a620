package sylow_test

import (
	"fmt"
	"slices"
	"testing"

	"cayley/api"
	"cayley/sylow"
	"cayley/table"
)

func fault(code, at int) api.Fault { return api.Fault{Code: code, At: at} }

// same holds two answers against each other; an empty list is a nil list.
func same(t *testing.T, what string, got, want any) {
	t.Helper()
	if fmt.Sprint(got) != fmt.Sprint(want) {
		t.Errorf("%s: %v, want %v", what, got, want)
	}
}

// answer is what a call answers: its list as a text, and its fault.
type answer struct {
	text string
	f    api.Fault
}

func told[T any](list []T, f api.Fault) answer { return answer{fmt.Sprint(list), f} }

// right is the answer without a fault.
func right(list any) answer { return answer{text: fmt.Sprint(list)} }

// refused is the answer that has this fault, and nothing beside it.
func refused(f api.Fault) answer { return answer{"[]", f} }

func calls() map[string]func(g api.Group, p int) answer {
	return map[string]func(g api.Group, p int) answer{
		"Cauchy": func(g api.Group, p int) answer { return told(sylow.Cauchy(g, p)) },
		"All":    func(g api.Group, p int) answer { return told(sylow.All(g, p)) },
		"Core":   func(g api.Group, p int) answer { return told(sylow.Core(g, p)) },
	}
}

// primes are all primes that may be asked for.
func primes() []int {
	return []int{2, 3, 5, 7, 11, 13, 17, 19, 23, 29, 31, 37, 41, 43, 47, 53, 59, 61, 67, 71, 73, 79, 83, 89, 97}
}

// given makes a group, or ends the test.
func given(t *testing.T, make func(n int) (api.Group, api.Fault), n int) api.Group {
	t.Helper()
	g, f := make(n)
	if f != (api.Fault{}) {
		t.Fatalf("of %d: %v", n, f)
	}
	return g
}

// perms is the group that permutations make.
func perms(t *testing.T, makers ...[]int) api.Group {
	t.Helper()
	g, _, f := table.Perms(makers)
	same(t, "fault", f, api.Fault{})
	return g
}

// evenOfFive has the even permutations of five points.
func evenOfFive(t *testing.T) api.Group {
	t.Helper()
	return perms(t, []int{1, 2, 3, 4, 0}, []int{1, 2, 0, 3, 4})
}

// moved is the permutation that moves each x below n to to(x).
func moved(n int, to func(x int) int) []int {
	p := make([]int, n)
	for x := range p {
		p[x] = to(x)
	}
	return p
}

// lines has x to k^i x + j, for all i and j, by the prime n.
func lines(t *testing.T, n, k int) api.Group {
	t.Helper()
	return perms(t, moved(n, func(x int) int { return (x + 1) % n }), moved(n, func(x int) int { return k * x % n }))
}

// linesOfEight has the lines over the field of eight: 56 things.
func linesOfEight(t *testing.T) api.Group {
	t.Helper()
	return perms(t, moved(8, func(x int) int { return x ^ 1 }), moved(8, func(x int) int { return (x<<1 ^ x>>2*11) & 7 }))
}

// regularByThree has what regular matrices of two rows over three numbers make,
// as permutations of the nine columns.
func regularByThree(t *testing.T, makers ...[4]int) api.Group {
	t.Helper()
	var list [][]int
	for _, m := range makers {
		list = append(list, moved(9, func(v int) int {
			return (m[0]*(v/3)+m[1]*(v%3))%3*3 + (m[2]*(v/3)+m[3]*(v%3))%3
		}))
	}
	return perms(t, list...)
}

// times is the product of some groups.
func times(t *testing.T, first api.Group, others ...api.Group) api.Group {
	t.Helper()
	for _, g := range others {
		var f api.Fault
		first, f = table.Product(first, g)
		same(t, "fault", f, api.Fault{})
	}
	return first
}

// renamed calls each thing a of g by the number name(a).
func renamed(g api.Group, name func(a int) int) api.Group {
	out := api.Group{N: g.N, Mul: make([]int, g.N*g.N)}
	for a := range g.N {
		for b := range g.N {
			out.Mul[name(a)*g.N+name(b)] = name(of(g, a, b))
		}
	}
	return out
}

// shuffled calls the things of g by other numbers, so that the one is not 0.
func shuffled(g api.Group) api.Group {
	return renamed(g, func(a int) int { return (g.N + 1 - a) % g.N })
}

// strewn calls them by other numbers in a less plain way.
func strewn(g api.Group) api.Group {
	step := 7
	for ; gcd(step, g.N) > 1; step++ {
	}
	return renamed(g, func(a int) int { return (step*a + g.N/2) % g.N })
}

func gcd(a, b int) int {
	for b > 0 {
		a, b = b, a%b
	}
	return a
}

// groups have up to 60 things, each by some of three ways to call its things.
func groups(t *testing.T) []api.Group {
	t.Helper()
	two, three, six := given(t, table.Cyclic, 2), given(t, table.Cyclic, 3), given(t, table.Dihedral, 3)
	evenOfFour := perms(t, []int{1, 2, 0, 3}, []int{1, 0, 3, 2})
	four := perms(t, []int{1, 0, 2, 3}, []int{1, 2, 3, 0})
	list := []api.Group{
		given(t, table.Cyclic, 1), two, three, given(t, table.Cyclic, 4), given(t, table.Cyclic, 12),
		given(t, table.Cyclic, 49), given(t, table.Cyclic, 59), given(t, table.Cyclic, 60),
		given(t, table.Dihedral, 2), six, given(t, table.Dihedral, 4), given(t, table.Dihedral, 6), given(t, table.Dihedral, 9),
		given(t, table.Dihedral, 15), given(t, table.Dihedral, 16), given(t, table.Dihedral, 30),
		given(t, table.Dicyclic, 2), given(t, table.Dicyclic, 3), given(t, table.Dicyclic, 9), given(t, table.Dicyclic, 15),
		times(t, two, two, two, two, two), times(t, three, three), times(t, three, three, three), times(t, six, six),
		times(t, three, six), times(t, two, four), times(t, two, two, evenOfFour), times(t, given(t, table.Cyclic, 5), evenOfFour),
		evenOfFour, four, evenOfFive(t),
		lines(t, 5, 2), lines(t, 7, 2), lines(t, 7, 3), lines(t, 11, 3), lines(t, 13, 3), lines(t, 13, 5), lines(t, 19, 7), linesOfEight(t),
		regularByThree(t, [4]int{1, 1, 0, 1}, [4]int{0, 1, 1, 0}), regularByThree(t, [4]int{1, 1, 0, 1}, [4]int{1, 0, 1, 1}),
	}
	var out []api.Group
	for i, g := range list {
		if i%2 == 0 {
			out = append(out, g, shuffled(g))
		} else {
			out = append(out, g, strewn(g))
		}
	}
	return out
}

// What follows tells the chapter's words again, without the program.

func of(g api.Group, a, b int) int { return g.Mul[a*g.N+b] }

func oneIn(g api.Group) int {
	for e := range g.N {
		if of(g, e, e) == e {
			return e
		}
	}
	return -1
}

// orderIn is the least n above 0 with which a, n times, is the one.
func orderIn(g api.Group, a int) int {
	n, power := 1, a
	for ; power != oneIn(g); n++ {
		power = of(g, power, a)
	}
	return n
}

// conjugatedIn has the things of l, conjugated by a: those x with a x = y a for a y of l.
func conjugatedIn(g api.Group, l []int, a int) []int {
	var out []int
	for x := range g.N {
		if slices.ContainsFunc(l, func(y int) bool { return of(g, a, x) == of(g, y, a) }) {
			out = append(out, x)
		}
	}
	return out
}

func allOf(g api.Group) []int { return moved(g.N, func(a int) int { return a }) }

// grownIn takes products until there are no new ones.
func grownIn(g api.Group, l []int) []int {
	out := []int{oneIn(g)}
	for at := 0; at < len(out); at++ {
		for _, a := range l {
			if c := of(g, out[at], a); !slices.Contains(out, c) {
				out = append(out, c)
			}
		}
	}
	slices.Sort(out)
	return out
}

// subgroupsOf are all subgroups: each is made by one that is less and a thing.
func subgroupsOf(g api.Group) [][]int {
	out := [][]int{{oneIn(g)}}
	seen := map[string]bool{fmt.Sprint(out[0]): true}
	for at := 0; at < len(out); at++ {
		for a := range g.N {
			if slices.Contains(out[at], a) {
				continue
			}
			l := grownIn(g, append(slices.Clone(out[at]), a))
			if text := fmt.Sprint(l); !seen[text] {
				seen[text] = true
				out = append(out, l)
			}
		}
	}
	return out
}

// powerIn is the greatest power of p that divides n.
func powerIn(n, p int) int {
	power := 1
	for n%(power*p) == 0 {
		power *= p
	}
	return power
}

// hasAll: is each thing of m one of l?
func hasAll(l, m []int) bool {
	return !slices.ContainsFunc(m, func(a int) bool { return !slices.Contains(l, a) })
}

// inEach has what each of the lists has, of those below n.
func inEach(n int, lists [][]int) []int {
	var out []int
	for a := range n {
		if !slices.ContainsFunc(lists, func(l []int) bool { return !slices.Contains(l, a) }) {
			out = append(out, a)
		}
	}
	return out
}
