package sub_test

import (
	"fmt"
	"slices"
	"testing"

	"cayley/api"
	"cayley/sub"
	"cayley/table"
)

func fault(code, at int) api.Fault { return api.Fault{Code: code, At: at} }

// same holds two answers against each other; an empty list is a nil list.
func same(t *testing.T, what string, got, want any) {
	t.Helper()
	if fmt.Sprint(got) != fmt.Sprint(want) {
		t.Errorf("%s: %v, want %v", what, got, want)
	}
}

// answer is what a call answers, as a text, and its fault.
type answer struct {
	text string
	f    api.Fault
}

func told[T any](got T, f api.Fault) answer { return answer{fmt.Sprint(got), f} }

// right is the answer that tells this, without a fault.
func right(what any) answer { return answer{fmt.Sprint(what), api.Fault{}} }

// given makes a group, or ends the test.
func given(t *testing.T, make func(n int) (api.Group, api.Fault), n int) api.Group {
	t.Helper()
	g, f := make(n)
	if f != (api.Fault{}) {
		t.Fatalf("of %d: %v", n, f)
	}
	return g
}

// perms is the group that permutations make.
func perms(t *testing.T, makers ...[]int) api.Group {
	t.Helper()
	g, _, f := table.Perms(makers)
	same(t, "fault", f, api.Fault{})
	return g
}

// pairs is the product of groups.
func pairs(t *testing.T, first api.Group, others ...api.Group) api.Group {
	t.Helper()
	for _, h := range others {
		g, f := table.Product(first, h)
		same(t, "fault", f, api.Fault{})
		first = g
	}
	return first
}

// symmetric and alternating are all permutations of four points, and the even ones.
func symmetric(t *testing.T) api.Group   { return perms(t, []int{1, 0, 2, 3}, []int{1, 2, 3, 0}) }
func alternating(t *testing.T) api.Group { return perms(t, []int{1, 2, 0, 3}, []int{0, 2, 3, 1}) }

// shuffled calls the things of g by other numbers, so that the one is not 0.
func shuffled(g api.Group) api.Group {
	name := func(a int) int { return (g.N + 1 - a) % g.N }
	out := api.Group{N: g.N, Mul: make([]int, g.N*g.N)}
	for a := range g.N {
		for b := range g.N {
			out.Mul[name(a)*g.N+name(b)] = name(of(g, a, b))
		}
	}
	return out
}

// smallGroups have at most 24 things; of half of them the one is not 0.
func smallGroups(t *testing.T) []api.Group {
	t.Helper()
	two, three := given(t, table.Cyclic, 2), given(t, table.Cyclic, 3)
	six, square := given(t, table.Dihedral, 3), given(t, table.Dihedral, 4)
	var out []api.Group
	for _, n := range []int{1, 2, 3, 4, 6, 8, 12, 16, 24} {
		out = append(out, given(t, table.Cyclic, n))
	}
	for _, n := range []int{1, 2, 3, 4, 5, 6, 8, 12} {
		out = append(out, given(t, table.Dihedral, n))
	}
	for _, n := range []int{1, 2, 3, 4, 6} {
		out = append(out, given(t, table.Dicyclic, n))
	}
	out = append(out, perms(t, []int{1, 0, 2}, []int{1, 2, 0}), alternating(t), symmetric(t),
		pairs(t, two, two, two), pairs(t, three, three), pairs(t, two, square), pairs(t, two, two, two, two), pairs(t, two, two, six))
	return bothWays(out)
}

// greatGroups have more than 24 things.
func greatGroups(t *testing.T) []api.Group {
	t.Helper()
	six := given(t, table.Dihedral, 3)
	return bothWays([]api.Group{given(t, table.Cyclic, 25), given(t, table.Cyclic, 60), given(t, table.Dihedral, 30),
		given(t, table.Dicyclic, 15), pairs(t, six, six), pairs(t, given(t, table.Cyclic, 2), symmetric(t)),
		perms(t, []int{1, 2, 3, 4, 0}, []int{1, 2, 0, 3, 4})})
}

func bothWays(groups []api.Group) []api.Group {
	for _, g := range slices.Clone(groups) {
		groups = append(groups, shuffled(g))
	}
	return groups
}

// What follows tells the chapter's words again, without the program.

func of(g api.Group, a, b int) int { return g.Mul[a*g.N+b] }

func oneIn(g api.Group) int {
	for e := range g.N {
		if of(g, e, e) == e {
			return e
		}
	}
	return -1
}

func inverseIn(g api.Group, a int) int {
	for b := range g.N {
		if of(g, a, b) == oneIn(g) {
			return b
		}
	}
	return -1
}

func conjugateIn(g api.Group, x, a int) int { return of(g, of(g, inverseIn(g, a), x), a) }

func commutatorIn(g api.Group, a, b int) int {
	return of(g, of(g, of(g, inverseIn(g, a), inverseIn(g, b)), a), b)
}

// risen is the set of the things of a list.
func risen(l []int) []int {
	return slices.Compact(slices.Sorted(slices.Values(l)))
}

func conjugatedIn(g api.Group, l []int, a int) []int {
	var out []int
	for _, x := range l {
		out = append(out, conjugateIn(g, x, a))
	}
	return risen(out)
}

func isSubgroup(g api.Group, l []int) bool {
	in := make([]bool, g.N)
	for _, a := range l {
		in[a] = true
	}
	if !in[oneIn(g)] {
		return false
	}
	for _, a := range l {
		for _, b := range l {
			if !in[of(g, a, b)] {
				return false
			}
		}
		if !in[inverseIn(g, a)] {
			return false
		}
	}
	return true
}

// grown takes products until there are no new ones.
func grown(g api.Group, l []int) []int {
	in := make([]bool, g.N)
	in[oneIn(g)] = true
	for _, a := range l {
		in[a] = true
	}
	for changed := true; changed; {
		changed = false
		for a := range g.N {
			for b := range g.N {
				if in[a] && in[b] && !in[of(g, a, b)] {
					in[of(g, a, b)], changed = true, true
				}
			}
		}
	}
	return those(g, func(a int) bool { return in[a] })
}

// those has all things of which it is so.
func those(g api.Group, so func(a int) bool) []int {
	var out []int
	for a := range g.N {
		if so(a) {
			out = append(out, a)
		}
	}
	return out
}

func hasAll(l, part []int) bool {
	for _, a := range part {
		if !slices.Contains(l, a) {
			return false
		}
	}
	return true
}

// listOf is the set whose things are the bits of a number.
func listOf(bits int) []int {
	var out []int
	for a := 0; bits>>a > 0; a++ {
		if bits>>a&1 == 1 {
			out = append(out, a)
		}
	}
	return out
}

// someSets are all sets of a small group, and many of a greater one, each size among them.
func someSets(g api.Group) [][]int {
	if g.N <= 6 {
		var out [][]int
		for bits := range 1 << g.N {
			out = append(out, listOf(bits))
		}
		return out
	}
	out := [][]int{nil, {}, {oneIn(g)}, those(g, func(a int) bool { return true })}
	for a := 0; a < g.N; a += 1 + g.N/24 {
		out = append(out, []int{a}, risen([]int{a, (5*a + 3) % g.N}), risen([]int{a, (7*a + 1) % g.N, oneIn(g)}))
		out = append(out, those(g, func(b int) bool { return b >= a }), those(g, func(b int) bool { return (a*b+b)%5 == 1 }))
	}
	return out
}

// someSubgroups are subgroups that someSets make, each once.
func someSubgroups(g api.Group) [][]int {
	var out [][]int
	for _, l := range someSets(g) {
		out = append(out, grown(g, l))
	}
	slices.SortFunc(out, slices.Compare)
	return slices.CompactFunc(out, slices.Equal)
}

// ofGroup are all calls of a group alone.
func ofGroup() map[string]func(g api.Group) answer {
	return map[string]func(g api.Group) answer{
		"All":      func(g api.Group) answer { return told(sub.All(g)) },
		"Centre":   func(g api.Group) answer { return told(sub.Centre(g)) },
		"Frattini": func(g api.Group) answer { return told(sub.Frattini(g)) },
	}
}

// ofSet are all calls of a group and a set that need be no subgroup.
func ofSet() map[string]func(g api.Group, l []int) answer {
	return map[string]func(g api.Group, l []int) answer{
		"Made":        func(g api.Group, l []int) answer { return told(sub.Made(g, l)) },
		"Is":          func(g api.Group, l []int) answer { return told(sub.Is(g, l)) },
		"Central":     func(g api.Group, l []int) answer { return told(sub.Central(g, l)) },
		"Closure":     func(g api.Group, l []int) answer { return told(sub.Closure(g, l)) },
		"Comm":        func(g api.Group, l []int) answer { return told(sub.Comm(g, l, l)) },
		"Comm first":  func(g api.Group, l []int) answer { return told(sub.Comm(g, l, nil)) },
		"Comm second": func(g api.Group, l []int) answer { return told(sub.Comm(g, nil, l)) },
	}
}

// ofSubgroup are all calls of a group and a subgroup.
func ofSubgroup() map[string]func(g api.Group, l []int) answer {
	return map[string]func(g api.Group, l []int) answer{
		"Normaliser": func(g api.Group, l []int) answer { return told(sub.Normaliser(g, l)) },
		"Normal":     func(g api.Group, l []int) answer { return told(sub.Normal(g, l)) },
		"Core":       func(g api.Group, l []int) answer { return told(sub.Core(g, l)) },
	}
}

// emptyOf is the text of what a call answers beside a fault.
func emptyOf(name string) string {
	if name == "Is" || name == "Normal" {
		return "false"
	}
	return "[]"
}
