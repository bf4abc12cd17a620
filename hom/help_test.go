package hom_test

import (
	"fmt"
	"slices"
	"testing"

	"cayley/api"
	"cayley/hom"
	"cayley/table"
)

func fault(code, at int) api.Fault { return api.Fault{Code: code, At: at} }

// same holds two answers against each other; an empty list is a nil list.
func same(t *testing.T, what string, got, want any) {
	t.Helper()
	if fmt.Sprint(got) != fmt.Sprint(want) {
		t.Errorf("%s: %v, want %v", what, got, want)
	}
}

// answer is what a call answers, as a text, and its fault.
type answer struct {
	text string
	f    api.Fault
}

func told[T []int | [][]int](got T, f api.Fault) answer { return answer{fmt.Sprint(got), f} }

// right is the answer that tells this, without a fault.
func right(what any) answer { return answer{fmt.Sprint(what), api.Fault{}} }

// refused is the answer that has this fault, and nothing beside it.
func refused(f api.Fault) answer { return answer{"[]", f} }

// given makes a group, or ends the test.
func given(t *testing.T, make func(n int) (api.Group, api.Fault), n int) api.Group {
	t.Helper()
	g, f := make(n)
	if f != (api.Fault{}) {
		t.Fatalf("of %d: %v", n, f)
	}
	return g
}

// perms is the group that permutations make.
func perms(t *testing.T, makers ...[]int) api.Group {
	t.Helper()
	g, _, f := table.Perms(makers)
	same(t, "fault", f, api.Fault{})
	return g
}

// times is the product of some groups.
func times(t *testing.T, first api.Group, others ...api.Group) api.Group {
	t.Helper()
	for _, g := range others {
		var f api.Fault
		first, f = table.Product(first, g)
		same(t, "fault", f, api.Fault{})
	}
	return first
}

// turned has x^i y^k, with i from 0 to n - 1 and k from 0 to by - 1, at the
// place i by + k: x has the order n, y the order by, and y x is x^power y.
func turned(n, by, power int) api.Group {
	g := api.Group{N: n * by, Mul: make([]int, n*by*n*by)}
	for a := range g.N {
		for b := range g.N {
			moved := b / by
			for range a % by {
				moved = moved * power % n
			}
			g.Mul[a*g.N+b] = (a/by+moved)%n*by + (a+b)%by
		}
	}
	return g
}

// renamed calls each thing a of g by the number name(a).
func renamed(g api.Group, name func(a int) int) api.Group {
	out := api.Group{N: g.N, Mul: make([]int, g.N*g.N)}
	for a := range g.N {
		for b := range g.N {
			out.Mul[name(a)*g.N+name(b)] = name(of(g, a, b))
		}
	}
	return out
}

// shuffled calls the things of g by other numbers, so that the one is not 0.
func shuffled(g api.Group) api.Group {
	return renamed(g, func(a int) int { return (g.N + 1 - a) % g.N })
}

// strewn calls them by other numbers in a less plain way.
func strewn(g api.Group) api.Group {
	step := 7
	for ; gcd(step, g.N) > 1; step++ {
	}
	return renamed(g, func(a int) int { return (step*a + g.N/2) % g.N })
}

func gcd(a, b int) int {
	for b > 0 {
		a, b = b, a%b
	}
	return a
}

// few are all groups of up to 9 things, each once, whatever its things are
// called.
func few(t *testing.T) []api.Group {
	t.Helper()
	two, three, four := given(t, table.Cyclic, 2), given(t, table.Cyclic, 3), given(t, table.Cyclic, 4)
	var out []api.Group
	for n := 1; n <= 9; n++ {
		out = append(out, given(t, table.Cyclic, n))
	}
	return append(out, given(t, table.Dihedral, 2), given(t, table.Dihedral, 3), given(t, table.Dihedral, 4),
		given(t, table.Dicyclic, 2), times(t, two, two, two), times(t, two, four), times(t, three, three))
}

// sixteen are groups of 16 things, no two of them the same by other names.
func sixteen(t *testing.T) []api.Group {
	t.Helper()
	two, four := given(t, table.Cyclic, 2), given(t, table.Cyclic, 4)
	return []api.Group{
		given(t, table.Cyclic, 16), times(t, two, given(t, table.Cyclic, 8)), times(t, four, four),
		times(t, two, two, four), times(t, two, two, two, two),
		given(t, table.Dihedral, 8), given(t, table.Dicyclic, 4), turned(8, 2, 3), turned(8, 2, 5), turned(4, 4, 3),
		times(t, two, given(t, table.Dihedral, 4)), times(t, two, given(t, table.Dicyclic, 2)),
	}
}

// many have from 10 to 60 things.
func many(t *testing.T) []api.Group {
	t.Helper()
	two, six := given(t, table.Cyclic, 2), given(t, table.Dihedral, 3)
	evenOfFour := perms(t, []int{1, 2, 0, 3}, []int{1, 0, 3, 2})
	four := perms(t, []int{1, 0, 2, 3}, []int{1, 2, 3, 0})
	evenOfFive := perms(t, []int{1, 2, 3, 4, 0}, []int{1, 2, 0, 3, 4})
	return []api.Group{
		given(t, table.Cyclic, 12), given(t, table.Cyclic, 60), given(t, table.Dihedral, 6), given(t, table.Dihedral, 12),
		given(t, table.Dihedral, 30), given(t, table.Dicyclic, 3), given(t, table.Dicyclic, 15), turned(5, 4, 2), turned(7, 3, 2),
		evenOfFour, four, evenOfFive, times(t, six, six), times(t, two, four), times(t, two, two, two, two, two), times(t, two, two, evenOfFour),
	}
}

// What follows tells the chapter's words again, without the program.

func of(g api.Group, a, b int) int { return g.Mul[a*g.N+b] }

func oneIn(g api.Group) int {
	for e := range g.N {
		if of(g, e, e) == e {
			return e
		}
	}
	return -1
}

func inverseIn(g api.Group, a int) int {
	for b := range g.N {
		if of(g, a, b) == oneIn(g) {
			return b
		}
	}
	return -1
}

func conjugateIn(g api.Group, x, a int) int { return of(g, of(g, inverseIn(g, a), x), a) }

// firstStray is the least a for which there is a b so that it is not so, or -1.
func firstStray(g, h api.Group, m []int) int {
	for a := range g.N {
		for b := range g.N {
			if m[of(g, a, b)] != of(h, m[a], m[b]) {
				return a
			}
		}
	}
	return -1
}

func isHom(g, h api.Group, m []int) bool { return len(m) == g.N && firstStray(g, h, m) < 0 }

// isIso: is m a homomorphism in which each thing of h stands just once?
func isIso(g, h api.Group, m []int) bool {
	return isHom(g, h, m) && slices.Equal(slices.Sorted(slices.Values(m)), allOf(h))
}

func allOf(g api.Group) []int {
	var out []int
	for a := range g.N {
		out = append(out, a)
	}
	return out
}

// homs are all homomorphisms, rising: for the first thing for which nothing
// stands yet all is tried, and all products of what is known become known.
func homs(g, h api.Group) [][]int {
	var out [][]int
	var from func(m []int)
	from = func(m []int) {
		if !settled(g, h, m) {
			return
		}
		next := slices.Index(m, -1)
		if next < 0 {
			out = append(out, m)
			return
		}
		for b := range h.N {
			with := slices.Clone(m)
			with[next] = b
			from(with)
		}
	}
	from(slices.Repeat([]int{-1}, g.N))
	return out
}

// settled puts what must stand for each product of things for which something
// stands, until there are no new ones: or is something else there already?
func settled(g, h api.Group, m []int) bool {
	for changed := true; changed; {
		changed = false
		for a := range g.N {
			for b := range g.N {
				if m[a] < 0 || m[b] < 0 {
					continue
				}
				c, image := of(g, a, b), of(h, m[a], m[b])
				if m[c] < 0 {
					m[c], changed = image, true
				}
				if m[c] != image {
					return false
				}
			}
		}
	}
	return true
}

// isos are those homomorphisms that are isomorphisms.
func isos(g, h api.Group) [][]int {
	return slices.DeleteFunc(homs(g, h), func(m []int) bool { return !isIso(g, h, m) })
}

// grown takes products until there are no new ones.
func grown(g api.Group, l []int) []int {
	out := []int{oneIn(g)}
	for at := 0; at < len(out); at++ {
		for _, a := range l {
			if c := of(g, out[at], a); !slices.Contains(out, c) {
				out = append(out, c)
			}
		}
	}
	slices.Sort(out)
	return out
}

// ofMap are the calls of two groups and a list, Check among them.
func ofMap() map[string]func(g, h api.Group, m []int) answer {
	return map[string]func(g, h api.Group, m []int) answer{
		"Check":  func(g, h api.Group, m []int) answer { return answer{"[]", hom.Check(g, h, m)} },
		"Kernel": func(g, h api.Group, m []int) answer { return told(hom.Kernel(g, h, m)) },
		"Image":  func(g, h api.Group, m []int) answer { return told(hom.Image(g, h, m)) },
	}
}

// ofTwo are all calls of two groups, with a list where they take lists.
func ofTwo() map[string]func(g, h api.Group, m []int) answer {
	out := ofMap()
	out["Extend"] = func(g, h api.Group, m []int) answer { return told(hom.Extend(g, h, m, m)) }
	out["All"] = func(g, h api.Group, m []int) answer { return told(hom.All(g, h)) }
	out["Iso"] = func(g, h api.Group, m []int) answer { return told(hom.Iso(g, h)) }
	return out
}

// ofOne are the calls of one group.
func ofOne() map[string]func(g api.Group) answer {
	return map[string]func(g api.Group) answer{
		"Autos": func(g api.Group) answer { return told(hom.Autos(g)) },
		"Inner": func(g api.Group) answer { return told(hom.Inner(g)) },
	}
}
