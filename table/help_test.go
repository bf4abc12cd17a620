package table_test

import (
	"fmt"
	"slices"
	"testing"

	"cayley/api"
	"cayley/table"
)

func fault(code, at int) api.Fault { return api.Fault{Code: code, At: at} }

// same holds two answers against each other; an empty list is a nil list.
func same(t *testing.T, what string, got, want any) {
	t.Helper()
	if fmt.Sprint(got) != fmt.Sprint(want) {
		t.Errorf("%s: %v, want %v", what, got, want)
	}
}

// answer is what a call answers, as a text, and its fault.
type answer struct {
	text string
	f    api.Fault
}

func told[T any](got T, f api.Fault) answer { return answer{fmt.Sprint(got), f} }

// right is the answer that tells this, without a fault.
func right(what any) answer { return answer{fmt.Sprint(what), api.Fault{}} }

// given makes a group with the program, or ends the test.
func given(t *testing.T, make func(n int) (api.Group, api.Fault), n int) api.Group {
	t.Helper()
	g, f := make(n)
	if f != (api.Fault{}) {
		t.Fatalf("of %d: %v", n, f)
	}
	return g
}

// of is the product, without the program.
func of(g api.Group, a, b int) int { return g.Mul[a*g.N+b] }

// renamed calls each thing a of g names[a].
func renamed(g api.Group, names []int) api.Group {
	out := api.Group{N: g.N, Mul: make([]int, g.N*g.N)}
	for a := range g.N {
		for b := range g.N {
			out.Mul[names[a]*g.N+names[b]] = names[of(g, a, b)]
		}
	}
	return out
}

// backwards calls the things of g by falling numbers, so that the one is not 0.
func backwards(g api.Group) api.Group {
	names := []int{}
	for a := range g.N {
		names = append(names, g.N-1-a)
	}
	return renamed(g, names)
}

// someGroups are groups of many kinds; of most the one is 0, of some the last thing, of some one between.
func someGroups(t *testing.T) []api.Group {
	t.Helper()
	var out []api.Group
	for _, n := range []int{1, 2, 3, 4, 6, 12, 59, 60} {
		out = append(out, given(t, table.Cyclic, n))
	}
	for _, n := range []int{1, 2, 3, 4, 6, 30} {
		out = append(out, given(t, table.Dihedral, n))
	}
	for _, n := range []int{1, 2, 3, 15} {
		out = append(out, given(t, table.Dicyclic, n))
	}
	for _, makers := range [][][]int{{{1, 0, 2}, {1, 2, 0}}, {{1, 2, 0, 3}, {0, 2, 3, 1}}, {{1, 2, 3, 4, 0}, {1, 2, 0, 3, 4}}} {
		g, _, f := table.Perms(makers)
		same(t, "fault", f, api.Fault{})
		out = append(out, g)
	}
	for _, g := range slices.Clone(out) {
		out = append(out, backwards(g))
		if g.N == 6 {
			out = append(out, renamed(g, []int{3, 0, 5, 1, 4, 2}))
		}
	}
	return out
}

// singles are all calls of one group.
func singles() map[string]func(g api.Group) answer {
	three := api.Group{N: 3, Mul: []int{0, 1, 2, 1, 2, 0, 2, 0, 1}}
	return map[string]func(g api.Group) answer{
		"Check":       func(g api.Group) answer { return answer{"0", table.Check(g)} },
		"One":         func(g api.Group) answer { return told(table.One(g)) },
		"Inv":         func(g api.Group) answer { return told(table.Inv(g, 0)) },
		"Inv of -1":   func(g api.Group) answer { return told(table.Inv(g, -1)) },
		"Pow":         func(g api.Group) answer { return told(table.Pow(g, 0, 5)) },
		"Pow of 60":   func(g api.Group) answer { return told(table.Pow(g, 60, 5)) },
		"Orders":      func(g api.Group) answer { return told(table.Orders(g)) },
		"Exponent":    func(g api.Group) answer { return told(table.Exponent(g)) },
		"Abelian":     func(g api.Group) answer { return told(table.Abelian(g)) },
		"Cayley":      func(g api.Group) answer { return told(table.Cayley(g)) },
		"Product":     func(g api.Group) answer { return told(table.Product(g, g)) },
		"Product 1st": func(g api.Group) answer { return told(table.Product(g, api.Group{})) },
		"Product 2nd": func(g api.Group) answer { return told(table.Product(three, g)) },
	}
}

// emptyOf is the text of what a call answers beside a fault.
func emptyOf(name string) string {
	switch name {
	case "Orders", "Cayley":
		return "[]"
	case "Abelian":
		return "false"
	case "Product", "Product 1st", "Product 2nd":
		return "{0 []}"
	}
	return "0"
}
