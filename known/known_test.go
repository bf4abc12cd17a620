package known_test

import (
	"fmt"
	"slices"
	"testing"

	"cayley/api"
	"cayley/known"
	"cayley/set"
	"cayley/table"
)

func same(t *testing.T, what string, got, want any) {
	t.Helper()
	if fmt.Sprint(got) != fmt.Sprint(want) {
		t.Errorf("%s: %v, want %v", what, got, want)
	}
}

// opened opens a group in which nothing is wrong.
func opened(t *testing.T, g api.Group, f api.Fault) known.Group {
	t.Helper()
	same(t, "fault", f, api.Fault{})
	out, f := known.Open(g)
	same(t, "fault", f, api.Fault{})
	return out
}

func TestOpenTellsWhatCheckTells(t *testing.T) {
	for _, g := range []api.Group{
		{}, {N: 61}, {N: 1, Mul: []int{0, 0}}, {N: 2, Mul: []int{0, 1, 1, 2}}, {N: 2, Mul: []int{0, 0, 0, 0}}, {N: 2, Mul: []int{0, 1, 1, 1}},
	} {
		out, f := known.Open(g)
		same(t, "fault", f, table.Check(g))
		same(t, "there is one", f.Code == api.OK, false)
		same(t, "beside it", out, known.Group{})
	}
}

func TestThingsOfAGroup(t *testing.T) {
	six, f := table.Dihedral(3)
	oneIsLast := api.Group{N: 2, Mul: []int{1, 0, 0, 1}}
	for _, g := range []known.Group{opened(t, six, f), opened(t, oneIsLast, api.Fault{})} {
		for a := range g.N {
			same(t, "one", []int{g.Product(a, g.One), g.Product(g.One, a)}, []int{a, a})
			same(t, "inverse", []int{g.Product(a, g.Inverses[a]), g.Product(g.Inverses[a], a)}, []int{g.One, g.One})
			for b := range g.N {
				same(t, "product", g.Product(a, b), g.Mul[a*g.N+b])
				same(t, "conjugate", g.Product(b, g.Conjugate(a, b)), g.Product(a, b))
				same(t, "commutator", g.Product(g.Product(b, a), g.Commutator(a, b)), g.Product(a, b))
			}
		}
		same(t, "things", []bool{g.Has(-1), g.Has(0), g.Has(g.N - 1), g.Has(g.N)}, "[false true true false]")
		same(t, "those", g.Those(func(a int) bool { return a == 1 }), set.Of(1))
		same(t, "all", g.All().Len(), g.N)
	}
}

func TestConjugated(t *testing.T) {
	six, f := table.Dihedral(3)
	g := opened(t, six, f)
	for s := range set.Set(1 << 6) {
		for a := range g.N {
			var want set.Set
			for _, x := range s.List() {
				want |= set.Of(g.Conjugate(x, a))
			}
			same(t, fmt.Sprint(s.List(), " by ", a), g.Conjugated(s, a), want)
		}
	}
	same(t, "a mirror by a turn", g.Conjugated(set.Of(0, 3), 1).List(), "[0 4]")
}

func TestMade(t *testing.T) {
	four, f := table.Dihedral(4)
	g := opened(t, four, f)
	for s := range set.Set(1 << 8) {
		got := g.Made(s)
		want := s | set.Of(g.One)
		for before := set.Set(0); before != want; {
			before = want
			for _, a := range before.List() {
				for _, b := range before.List() {
					want |= set.Of(g.Product(a, b))
				}
			}
		}
		same(t, fmt.Sprint("made by ", s.List()), got.List(), want.List())
		same(t, "has them", slices.ContainsFunc(s.List(), func(a int) bool { return !got.Has(a) }), false)
	}
}

func TestCommutators(t *testing.T) {
	six, f := table.Dihedral(3)
	g := opened(t, six, f)
	for s := range set.Set(1 << 6) {
		for other := range set.Set(1 << 6) {
			var all set.Set
			for _, a := range s.List() {
				for _, b := range other.List() {
					all |= set.Of(g.Commutator(a, b))
				}
			}
			same(t, fmt.Sprint("of ", s.List(), other.List()), g.Commutators(s, other), g.Made(all))
		}
	}
	same(t, "all of them", g.Commutators(g.All(), g.All()).List(), "[0 1 2]")
	same(t, "without any", g.Commutators(0, g.All()).List(), "[0]")
}

// TestClosure: held against all subgroups that have s and stay as they are.
func TestClosure(t *testing.T) {
	four, f := table.Dihedral(4)
	g := opened(t, four, f)
	var subgroups []set.Set
	for s := range set.Set(1 << 8) {
		if g.Made(s) == s {
			subgroups = append(subgroups, s)
		}
	}
	for _, by := range subgroups {
		for s := range set.Set(1 << 8) {
			want := g.All()
			for _, h := range subgroups {
				stays := !slices.ContainsFunc(by.List(), func(a int) bool { return g.Conjugated(h, a) != h })
				if s.In(h) && stays {
					want &= h
				}
			}
			same(t, fmt.Sprint("of ", s.List(), " by ", by.List()), g.Closure(s, by).List(), want.List())
		}
	}
}
