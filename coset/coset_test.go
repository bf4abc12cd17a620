package coset_test

import (
	"fmt"
	"slices"
	"testing"

	"cayley/api"
	"cayley/coset"
	"cayley/perm"
	"cayley/sub"
	"cayley/table"
)

func TestExamples(t *testing.T) {
	four := given(t, table.Cyclic, 4)
	same(t, "Right of 0, 2", told(coset.Right(four, []int{0, 2})), right("[[0 2] [1 3]]"))
}

func TestCosetsThatAreKnown(t *testing.T) {
	square := given(t, table.Dihedral, 4)
	same(t, "Right", told(coset.Right(square, []int{0, 5})), right("[[0 5] [1 4] [2 7] [3 6]]"))
	same(t, "Left", told(coset.Left(square, []int{0, 5})), right("[[0 5] [1 6] [2 7] [3 4]]"))
	same(t, "Double", told(coset.Double(square, []int{0, 4}, []int{0, 5})), right("[[0 3 4 5] [1 2 6 7]]"))
	same(t, "Double, changed round", told(coset.Double(square, []int{0, 5}, []int{0, 4})), right("[[0 1 4 5] [2 3 6 7]]"))
	same(t, "Act of the turns", told(coset.Act(square, []int{0, 1, 2, 3})), right("[[0 1] [0 1] [0 1] [0 1] [1 0] [1 0] [1 0] [1 0]]"))
	same(t, "Act of a mirror", told(coset.Act(square, []int{0, 4})),
		right("[[0 1 2 3] [1 2 3 0] [2 3 0 1] [3 0 1 2] [0 3 2 1] [3 2 1 0] [2 1 0 3] [1 0 3 2]]"))
	one := api.Group{N: 1, Mul: []int{0}}
	for name, call := range ofSubgroup() {
		same(t, name, call(one, []int{0}), right("[[0]]"))
	}
	turned := api.Group{N: 2, Mul: []int{1, 0, 0, 1}} // the one is 1
	same(t, "Act where the one is 1", told(coset.Act(turned, []int{1})), right("[[1 0] [0 1]]"))
}

// TestRightAndLeft: each coset once, by their least things; each is as large as the subgroup (Lagrange).
func TestRightAndLeft(t *testing.T) {
	for _, g := range groups(t) {
		for _, l := range subgroups(g) {
			rights, f := coset.Right(g, l)
			same(t, "fault", f, api.Fault{})
			same(t, fmt.Sprint("Right of ", l), rights, every(g, func(a int) []int { return rightIn(g, l, a) }))
			lefts, f := coset.Left(g, l)
			same(t, "fault", f, api.Fault{})
			same(t, fmt.Sprint("Left of ", l), lefts, every(g, func(a int) []int { return leftIn(g, l, a) }))
			for _, c := range append(rights, lefts...) {
				same(t, "Lagrange", len(c), len(l))
			}
			same(t, "how many", []int{len(rights), len(lefts)}, []int{g.N / len(l), g.N / len(l)})
			normal, _ := sub.Normal(g, l)
			same(t, "right ones are left ones", fmt.Sprint(rights) == fmt.Sprint(lefts), normal)
		}
	}
}

// TestDouble: each double coset once, by their least things; each is as large as Frobenius says.
func TestDouble(t *testing.T) {
	for _, g := range groups(t) {
		some := subgroups(g)
		for i, l := range some {
			for k := i % 3; k < len(some); k += 1 + len(some)/12 {
				m := some[k]
				doubles, f := coset.Double(g, l, m)
				same(t, "fault", f, api.Fault{})
				same(t, fmt.Sprint("Double of ", l, m), doubles, every(g, func(a int) []int { return doubleIn(g, l, m, a) }))
				for _, c := range doubles {
					frobenius(t, g, l, m, c)
				}
			}
		}
	}
}

// frobenius holds how many things a double coset has against what l and m, and
// l conjugated by each of its things, have.
func frobenius(t *testing.T, g api.Group, l, m, double []int) {
	t.Helper()
	for _, a := range double {
		both := 0
		for _, x := range l {
			if slices.Contains(m, conjugateIn(g, x, a)) {
				both++
			}
		}
		same(t, fmt.Sprint("Frobenius of ", a), len(double)*both, len(l)*len(m))
	}
}

// TestDoubleOfTheOneOrOfAll: the one on a side makes cosets of the other side, all of the group makes one.
func TestDoubleOfTheOneOrOfAll(t *testing.T) {
	for _, g := range groups(t) {
		one, all := []int{oneIn(g)}, allOf(g)
		for _, l := range subgroups(g) {
			same(t, "one behind", told(coset.Double(g, l, one)), told(coset.Right(g, l)))
			same(t, "one ahead", told(coset.Double(g, one, l)), told(coset.Left(g, l)))
			same(t, "all behind", told(coset.Double(g, l, all)), right([][]int{all}))
			same(t, "all ahead", told(coset.Double(g, all, l)), right([][]int{all}))
		}
	}
}

// TestAct: each thing a moves the coset of each b to that of b a.
func TestAct(t *testing.T) {
	for _, g := range groups(t) {
		for _, l := range subgroups(g) {
			moves, f := coset.Act(g, l)
			same(t, "fault", f, api.Fault{})
			same(t, "how many", len(moves), g.N)
			cosets := every(g, func(a int) []int { return rightIn(g, l, a) })
			number := make([]int, g.N)
			for i, c := range cosets {
				for _, b := range c {
					number[b] = i
				}
			}
			for a, p := range moves {
				same(t, "points", len(p), len(cosets))
				same(t, "permutation", perm.Check(p), api.Fault{})
				for b := range g.N {
					if p[number[b]] != number[of(g, b, a)] {
						t.Fatalf("Act of %v: %d moves the coset of %d as %v", l, a, b, p)
					}
				}
			}
		}
	}
}

// TestActMovesAsTheGroup: products move as both do, one behind the other; what
// moves nothing is the Core; of the one alone Act is Cayley's.
func TestActMovesAsTheGroup(t *testing.T) {
	for _, g := range groups(t) {
		for _, l := range subgroups(g) {
			moves, _ := coset.Act(g, l)
			for a := range g.N {
				b := (7*a + 2) % g.N
				both, f := perm.Mul(moves[a], moves[b])
				same(t, "fault", f, api.Fault{})
				same(t, "product", moves[of(g, a, b)], both)
			}
			still := those(g, func(a int) bool { return slices.IsSorted(moves[a]) })
			core, _ := sub.Core(g, l)
			same(t, fmt.Sprint("Core of ", l), still, core)
		}
		same(t, "Cayley", told(coset.Act(g, []int{oneIn(g)})), told(table.Cayley(g)))
	}
}

// TestAnswersAreNew: what is done to an answer touches neither what was handed in nor another list of it.
func TestAnswersAreNew(t *testing.T) {
	for _, g := range groups(t) {
		for _, l := range [][]int{{oneIn(g)}, grown(g, []int{g.N - 1}), allOf(g)} {
			before := fmt.Sprint(g, l)
			for name, call := range map[string]func() ([][]int, api.Fault){
				"Right":  func() ([][]int, api.Fault) { return coset.Right(g, l) },
				"Left":   func() ([][]int, api.Fault) { return coset.Left(g, l) },
				"Double": func() ([][]int, api.Fault) { return coset.Double(g, l, l) },
				"Act":    func() ([][]int, api.Fault) { return coset.Act(g, l) },
			} {
				answers, _ := call()
				first := fmt.Sprint(answers)
				for i, list := range answers {
					behind := fmt.Sprint(answers[i+1:])
					for k := range list[:cap(list)] {
						list[:cap(list)][k] = -9
					}
					same(t, name+" apart", answers[i+1:], behind)
				}
				again, _ := call()
				same(t, name+" again", again, first)
				same(t, name+" handed in", fmt.Sprint(g, l), before)
			}
		}
	}
}
