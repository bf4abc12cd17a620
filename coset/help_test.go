package coset_test

import (
	"fmt"
	"slices"
	"testing"

	"cayley/api"
	"cayley/coset"
	"cayley/table"
)

func fault(code, at int) api.Fault { return api.Fault{Code: code, At: at} }

// same holds two answers against each other; an empty list is a nil list.
func same(t *testing.T, what string, got, want any) {
	t.Helper()
	if fmt.Sprint(got) != fmt.Sprint(want) {
		t.Errorf("%s: %v, want %v", what, got, want)
	}
}

// answer is what a call answers, as a text, and its fault.
type answer struct {
	text string
	f    api.Fault
}

func told(got [][]int, f api.Fault) answer { return answer{fmt.Sprint(got), f} }

// right is the answer that tells this, without a fault.
func right(what any) answer { return answer{fmt.Sprint(what), api.Fault{}} }

// refused is the answer that has this fault, and nothing beside it.
func refused(f api.Fault) answer { return answer{"[]", f} }

// given makes a group, or ends the test.
func given(t *testing.T, make func(n int) (api.Group, api.Fault), n int) api.Group {
	t.Helper()
	g, f := make(n)
	if f != (api.Fault{}) {
		t.Fatalf("of %d: %v", n, f)
	}
	return g
}

// perms is the group that permutations make.
func perms(t *testing.T, makers ...[]int) api.Group {
	t.Helper()
	g, _, f := table.Perms(makers)
	same(t, "fault", f, api.Fault{})
	return g
}

// pairs is the product of two groups.
func pairs(t *testing.T, g, h api.Group) api.Group {
	t.Helper()
	out, f := table.Product(g, h)
	same(t, "fault", f, api.Fault{})
	return out
}

// shuffled calls the things of g by other numbers, so that the one is not 0.
func shuffled(g api.Group) api.Group {
	name := func(a int) int { return (g.N + 1 - a) % g.N }
	out := api.Group{N: g.N, Mul: make([]int, g.N*g.N)}
	for a := range g.N {
		for b := range g.N {
			out.Mul[name(a)*g.N+name(b)] = name(of(g, a, b))
		}
	}
	return out
}

func bothWays(groups []api.Group) []api.Group {
	for _, g := range slices.Clone(groups) {
		groups = append(groups, shuffled(g))
	}
	return groups
}

// groups have from 1 to 60 things; of half of them the one is not 0.
func groups(t *testing.T) []api.Group {
	t.Helper()
	two, six := given(t, table.Cyclic, 2), given(t, table.Dihedral, 3)
	var out []api.Group
	for _, n := range []int{1, 2, 3, 4, 6, 8, 12, 25, 60} {
		out = append(out, given(t, table.Cyclic, n))
	}
	for _, n := range []int{1, 2, 3, 4, 5, 6, 9, 12, 30} {
		out = append(out, given(t, table.Dihedral, n))
	}
	for _, n := range []int{1, 2, 3, 6, 15} {
		out = append(out, given(t, table.Dicyclic, n))
	}
	four := perms(t, []int{1, 0, 2, 3}, []int{1, 2, 3, 0})
	even := perms(t, []int{1, 2, 3, 4, 0}, []int{1, 2, 0, 3, 4})
	out = append(out, four, even, pairs(t, two, pairs(t, two, two)), pairs(t, six, six), pairs(t, two, four))
	return bothWays(out)
}

// What follows tells the chapter's words again, without the program.

func of(g api.Group, a, b int) int { return g.Mul[a*g.N+b] }

func oneIn(g api.Group) int {
	for e := range g.N {
		if of(g, e, e) == e {
			return e
		}
	}
	return -1
}

func inverseIn(g api.Group, a int) int {
	for b := range g.N {
		if of(g, a, b) == oneIn(g) {
			return b
		}
	}
	return -1
}

func conjugateIn(g api.Group, x, a int) int { return of(g, of(g, inverseIn(g, a), x), a) }

// risen is the set of the things of a list.
func risen(l []int) []int {
	return slices.Compact(slices.Sorted(slices.Values(l)))
}

// those has all things of which it is so.
func those(g api.Group, so func(a int) bool) []int {
	var out []int
	for a := range g.N {
		if so(a) {
			out = append(out, a)
		}
	}
	return out
}

func isSubgroup(g api.Group, l []int) bool {
	if !slices.Contains(l, oneIn(g)) {
		return false
	}
	for _, a := range l {
		for _, b := range l {
			if !slices.Contains(l, of(g, a, b)) {
				return false
			}
		}
	}
	return true
}

// grown takes products until there are no new ones.
func grown(g api.Group, l []int) []int {
	in := make([]bool, g.N)
	in[oneIn(g)] = true
	for _, a := range l {
		in[a] = true
	}
	for changed := true; changed; {
		changed = false
		for a := range g.N {
			for b := range g.N {
				if in[a] && in[b] && !in[of(g, a, b)] {
					in[of(g, a, b)], changed = true, true
				}
			}
		}
	}
	return those(g, func(a int) bool { return in[a] })
}

// subgroups are those that one thing makes, or two, each once; all of them in
// most of the groups here.
func subgroups(g api.Group) [][]int {
	out := [][]int{{oneIn(g)}, those(g, func(a int) bool { return true })}
	for a := range g.N {
		out = append(out, grown(g, []int{a}), grown(g, []int{a, (5*a + 3) % g.N}))
	}
	slices.SortFunc(out, slices.Compare)
	return slices.CompactFunc(out, slices.Equal)
}

// sorted has the sets of a list each once, by their least things.
func sorted(sets [][]int) [][]int {
	slices.SortFunc(sets, slices.Compare)
	return slices.CompactFunc(sets, slices.Equal)
}

// rightIn, leftIn and doubleIn are the cosets of a.

func rightIn(g api.Group, l []int, a int) []int { return doubleIn(g, l, []int{oneIn(g)}, a) }

func leftIn(g api.Group, l []int, a int) []int { return doubleIn(g, []int{oneIn(g)}, l, a) }

func doubleIn(g api.Group, l, m []int, a int) []int {
	var out []int
	for _, x := range l {
		for _, y := range m {
			out = append(out, of(g, of(g, x, a), y))
		}
	}
	return risen(out)
}

// every has the coset of each thing, and each once.
func every(g api.Group, coset func(a int) []int) [][]int {
	var out [][]int
	for a := range g.N {
		out = append(out, coset(a))
	}
	return sorted(out)
}

// ofSubgroup are all calls of one subgroup, Double in three ways.
func ofSubgroup() map[string]func(g api.Group, l []int) answer {
	return map[string]func(g api.Group, l []int) answer{
		"Right":         func(g api.Group, l []int) answer { return told(coset.Right(g, l)) },
		"Left":          func(g api.Group, l []int) answer { return told(coset.Left(g, l)) },
		"Act":           func(g api.Group, l []int) answer { return told(coset.Act(g, l)) },
		"Double":        func(g api.Group, l []int) answer { return told(coset.Double(g, l, l)) },
		"Double first":  func(g api.Group, l []int) answer { return told(coset.Double(g, l, allOf(g))) },
		"Double second": func(g api.Group, l []int) answer { return told(coset.Double(g, allOf(g), l)) },
	}
}

// allOf has each thing of a group, if its N is one that may be.
func allOf(g api.Group) []int {
	if g.N > api.MaxGroup {
		return nil
	}
	return those(g, func(a int) bool { return true })
}
