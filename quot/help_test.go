package quot_test

import (
	"fmt"
	"slices"
	"testing"

	"cayley/api"
	"cayley/quot"
	"cayley/table"
)

func fault(code, at int) api.Fault { return api.Fault{Code: code, At: at} }

// same holds two answers against each other; an empty list is a nil list.
func same(t *testing.T, what string, got, want any) {
	t.Helper()
	if fmt.Sprint(got) != fmt.Sprint(want) {
		t.Errorf("%s: %v, want %v", what, got, want)
	}
}

// answer is what a call answers; a call without a list answers an empty one.
type answer struct {
	g  api.Group
	l  []int
	is bool
	f  api.Fault
}

func toldBoth(g api.Group, l []int, f api.Fault) answer { return answer{g: g, l: l, f: f} }

func toldGroup(g api.Group, f api.Fault) answer { return answer{g: g, f: f} }

func toldIs(is bool, f api.Fault) answer { return answer{is: is, f: f} }

// refused is the answer that has this fault, and nothing beside it.
func refused(f api.Fault) answer { return answer{f: f} }

// ofSubgroup are the calls of a group and a subgroup.
func ofSubgroup() map[string]func(g api.Group, l []int) answer {
	return map[string]func(g api.Group, l []int) answer{
		"Quotient": func(g api.Group, l []int) answer { return toldBoth(quot.Quotient(g, l)) },
		"Part":     func(g api.Group, l []int) answer { return toldGroup(quot.Part(g, l)) },
	}
}

// ofGroup are the calls of a group alone.
func ofGroup() map[string]func(g api.Group) answer {
	return map[string]func(g api.Group) answer{
		"Simple": func(g api.Group) answer { return toldIs(quot.Simple(g)) },
		"Abel":   func(g api.Group) answer { return toldBoth(quot.Abel(g)) },
	}
}

// given makes a group, or ends the test.
func given(t *testing.T, make func(n int) (api.Group, api.Fault), n int) api.Group {
	t.Helper()
	g, f := make(n)
	if f != (api.Fault{}) {
		t.Fatalf("of %d: %v", n, f)
	}
	return g
}

// perms is the group that permutations make.
func perms(t *testing.T, makers ...[]int) api.Group {
	t.Helper()
	g, _, f := table.Perms(makers)
	same(t, "fault", f, api.Fault{})
	return g
}

// evenOfFive has the even permutations of five points.
func evenOfFive(t *testing.T) api.Group {
	t.Helper()
	return perms(t, []int{1, 2, 3, 4, 0}, []int{1, 2, 0, 3, 4})
}

// times is the product of some groups.
func times(t *testing.T, first api.Group, others ...api.Group) api.Group {
	t.Helper()
	for _, g := range others {
		var f api.Fault
		first, f = table.Product(first, g)
		same(t, "fault", f, api.Fault{})
	}
	return first
}

// renamed calls each thing a of g by the number name(a).
func renamed(g api.Group, name func(a int) int) api.Group {
	out := api.Group{N: g.N, Mul: make([]int, g.N*g.N)}
	for a := range g.N {
		for b := range g.N {
			out.Mul[name(a)*g.N+name(b)] = name(of(g, a, b))
		}
	}
	return out
}

// shuffled calls the things of g by other numbers, so that the one is not 0.
func shuffled(g api.Group) api.Group {
	return renamed(g, func(a int) int { return (g.N + 1 - a) % g.N })
}

// strewn calls them by other numbers in a less plain way.
func strewn(g api.Group) api.Group {
	step := 7
	for ; gcd(step, g.N) > 1; step++ {
	}
	return renamed(g, func(a int) int { return (step*a + g.N/2) % g.N })
}

func gcd(a, b int) int {
	for b > 0 {
		a, b = b, a%b
	}
	return a
}

// few are all groups of up to 9 things, each once, whatever its things are
// called.
func few(t *testing.T) []api.Group {
	t.Helper()
	two, three, four := given(t, table.Cyclic, 2), given(t, table.Cyclic, 3), given(t, table.Cyclic, 4)
	var out []api.Group
	for n := 1; n <= 9; n++ {
		out = append(out, given(t, table.Cyclic, n))
	}
	return append(out, given(t, table.Dihedral, 2), given(t, table.Dihedral, 3), given(t, table.Dihedral, 4),
		given(t, table.Dicyclic, 2), times(t, two, two, two), times(t, two, four), times(t, three, three))
}

// many have from 10 to 60 things.
func many(t *testing.T) []api.Group {
	t.Helper()
	two, six := given(t, table.Cyclic, 2), given(t, table.Dihedral, 3)
	evenOfFour := perms(t, []int{1, 2, 0, 3}, []int{1, 0, 3, 2})
	four := perms(t, []int{1, 0, 2, 3}, []int{1, 2, 3, 0})
	return []api.Group{
		given(t, table.Cyclic, 12), given(t, table.Cyclic, 60), given(t, table.Dihedral, 6), given(t, table.Dihedral, 12),
		given(t, table.Dihedral, 30), given(t, table.Dicyclic, 3), given(t, table.Dicyclic, 4), given(t, table.Dicyclic, 15),
		evenOfFour, four, evenOfFive(t), times(t, six, six), times(t, two, four), times(t, two, two, two, two), times(t, two, two, evenOfFour),
	}
}

// all has the groups of few and many, each by some of three ways to call its
// things.
func all(t *testing.T) []api.Group {
	t.Helper()
	var out []api.Group
	for _, g := range few(t) {
		out = append(out, g, shuffled(g), strewn(g))
	}
	for i, g := range many(t) {
		if i%2 == 0 {
			out = append(out, g, shuffled(g))
		} else {
			out = append(out, g, strewn(g))
		}
	}
	return out
}

// What follows tells the chapter's words again, without the program.

func of(g api.Group, a, b int) int { return g.Mul[a*g.N+b] }

func oneIn(g api.Group) int {
	for e := range g.N {
		if of(g, e, e) == e {
			return e
		}
	}
	return -1
}

func inverseIn(g api.Group, a int) int {
	for b := range g.N {
		if of(g, a, b) == oneIn(g) {
			return b
		}
	}
	return -1
}

func conjugateIn(g api.Group, x, a int) int { return of(g, of(g, inverseIn(g, a), x), a) }

func allOf(g api.Group) []int {
	var out []int
	for a := range g.N {
		out = append(out, a)
	}
	return out
}

// risen is the set of the things of a list.
func risen(l []int) []int { return slices.Compact(slices.Sorted(slices.Values(l))) }

func isSubgroup(g api.Group, l []int) bool {
	if !slices.Contains(l, oneIn(g)) {
		return false
	}
	for _, a := range l {
		for _, b := range l {
			if !slices.Contains(l, of(g, a, b)) {
				return false
			}
		}
	}
	return true
}

// isNormal: is the subgroup l, conjugated, always l?
func isNormal(g api.Group, l []int) bool {
	for a := range g.N {
		for _, x := range l {
			if !slices.Contains(l, conjugateIn(g, x, a)) {
				return false
			}
		}
	}
	return true
}

// grown takes products until there are no new ones.
func grown(g api.Group, l []int) []int {
	out := []int{oneIn(g)}
	for at := 0; at < len(out); at++ {
		for _, a := range l {
			if c := of(g, out[at], a); !slices.Contains(out, c) {
				out = append(out, c)
			}
		}
	}
	slices.Sort(out)
	return out
}

// subgroups are all subgroups: each is made by one that is less and a thing.
func subgroups(g api.Group) [][]int {
	out := [][]int{{oneIn(g)}}
	seen := map[string]bool{fmt.Sprint(out[0]): true}
	for at := 0; at < len(out); at++ {
		for a := range g.N {
			if slices.Contains(out[at], a) {
				continue
			}
			l := grown(g, append(slices.Clone(out[at]), a))
			if text := fmt.Sprint(l); !seen[text] {
				seen[text] = true
				out = append(out, l)
			}
		}
	}
	return out
}

// some has up to most of the lists, the first and the last of them.
func some(lists [][]int, most int) [][]int {
	var out [][]int
	for at := 0; at < len(lists)-1; at += 1 + len(lists)/most {
		out = append(out, lists[at])
	}
	return append(out, lists[len(lists)-1])
}

// normals are all normal subgroups.
func normals(g api.Group) [][]int {
	return slices.DeleteFunc(subgroups(g), func(l []int) bool { return !isNormal(g, l) })
}

// cosetsOf are the right cosets of l, by their least things.
func cosetsOf(g api.Group, l []int) [][]int {
	var out [][]int
	for a := range g.N {
		var coset []int
		for _, x := range l {
			coset = append(coset, of(g, x, a))
		}
		out = append(out, risen(coset))
	}
	slices.SortFunc(out, slices.Compare)
	return slices.CompactFunc(out, slices.Equal)
}

// commutatorsOf is the subgroup that all commutators make.
func commutatorsOf(g api.Group) []int {
	var l []int
	for a := range g.N {
		for b := range g.N {
			l = append(l, of(g, inverseIn(g, a), conjugateIn(g, a, b)))
		}
	}
	return grown(g, risen(l))
}

func commute(g api.Group) bool {
	for a := range g.N {
		for b := range g.N {
			if of(g, a, b) != of(g, b, a) {
				return false
			}
		}
	}
	return true
}

func isHom(g, h api.Group, m []int) bool {
	if len(m) != g.N {
		return false
	}
	for a := range g.N {
		for b := range g.N {
			if m[of(g, a, b)] != of(h, m[a], m[b]) {
				return false
			}
		}
	}
	return true
}

// isIso: is m a homomorphism in which each thing of h stands just once?
func isIso(g, h api.Group, m []int) bool {
	return slices.Equal(slices.Sorted(slices.Values(m)), allOf(h)) && isHom(g, h, m)
}

// both has what two sets both have.
func both(l, m []int) []int {
	return slices.DeleteFunc(slices.Clone(l), func(a int) bool { return !slices.Contains(m, a) })
}
