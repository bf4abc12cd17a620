package table_test

import (
	"fmt"
	"math"
	"testing"

	"cayley/api"
	"cayley/perm"
	"cayley/table"
)

// oneIn looks for the one, without the program.
func oneIn(g api.Group) int {
	for e := range g.N {
		if of(g, e, e) == e {
			return e
		}
	}
	return -1
}

func TestOneAndInverses(t *testing.T) {
	for _, g := range someGroups(t) {
		one, f := table.One(g)
		same(t, "fault", f, api.Fault{})
		same(t, "one", one, oneIn(g))
		for a := range g.N {
			b, f := table.Inv(g, a)
			same(t, "fault", f, api.Fault{})
			same(t, fmt.Sprint("inverse of ", a), of(g, a, b), one)
			same(t, fmt.Sprint("inverse of ", a), of(g, b, a), one)
		}
	}
	same(t, "the one is 1", told(table.One(api.Group{N: 2, Mul: []int{1, 0, 0, 1}})), right(1))
}

func TestPowBySteps(t *testing.T) {
	for _, g := range someGroups(t) {
		for a := 0; a < g.N; a += 1 + g.N/7 {
			inverse, _ := table.Inv(g, a)
			up, down := oneIn(g), oneIn(g)
			for n := range 70 {
				same(t, fmt.Sprint(a, " ", n, " times"), told(table.Pow(g, a, n)), right(up))
				same(t, fmt.Sprint(a, " ", -n, " times"), told(table.Pow(g, a, -n)), right(down))
				up, down = of(g, up, a), of(g, down, inverse)
			}
		}
	}
}

// TestPowOfGreatNumbers: in a cyclic group, Pow is a product of numbers.
func TestPowOfGreatNumbers(t *testing.T) {
	for _, n := range []int{1, 2, 7, 59, 60} {
		g := given(t, table.Cyclic, n)
		for _, times := range []int{math.MaxInt, math.MaxInt - 1, -math.MaxInt, math.MinInt, math.MinInt + 1, 1 << 40, -1 << 40} {
			for a := range n {
				want := ((times%n+n)%n*a%n + n) % n
				same(t, fmt.Sprint(a, " of ", n, ", ", times, " times"), told(table.Pow(g, a, times)), right(want))
			}
		}
	}
}

// TestOrders by steps, with what Lagrange says, and Exponent by trying.
func TestOrders(t *testing.T) {
	for _, g := range someGroups(t) {
		orders, f := table.Orders(g)
		same(t, "fault", f, api.Fault{})
		same(t, "how many", len(orders), g.N)
		for a, got := range orders {
			want := 1
			for x := a; x != oneIn(g); x = of(g, x, a) {
				want++
			}
			same(t, fmt.Sprint("order of ", a), got, want)
			same(t, "Lagrange", g.N%got, 0)
		}
		exponent := 1
		for !allDivide(orders, exponent) {
			exponent++
		}
		same(t, "exponent", told(table.Exponent(g)), right(exponent))
	}
}

func allDivide(orders []int, n int) bool {
	for _, order := range orders {
		if n%order != 0 {
			return false
		}
	}
	return true
}

func TestOrdersThatAreKnown(t *testing.T) {
	cases := []struct {
		g        api.Group
		orders   string
		exponent int
		abelian  bool
	}{
		{given(t, table.Cyclic, 1), "[1]", 1, true},
		{given(t, table.Cyclic, 12), "[1 12 6 4 3 12 2 12 3 4 6 12]", 12, true},
		{given(t, table.Dihedral, 1), "[1 2]", 2, true},
		{given(t, table.Dihedral, 2), "[1 2 2 2]", 2, true},
		{given(t, table.Dihedral, 3), "[1 3 3 2 2 2]", 6, false},
		{given(t, table.Dihedral, 4), "[1 4 2 4 2 2 2 2]", 4, false},
		{given(t, table.Dicyclic, 1), "[1 2 4 4]", 4, true},
		{given(t, table.Dicyclic, 2), "[1 4 2 4 4 4 4 4]", 4, false},
		{given(t, table.Dicyclic, 3), "[1 6 3 2 3 6 4 4 4 4 4 4]", 12, false},
	}
	for _, c := range cases {
		same(t, "orders", told(table.Orders(c.g)), right(c.orders))
		same(t, "exponent", told(table.Exponent(c.g)), right(c.exponent))
		same(t, "abelian", told(table.Abelian(c.g)), right(c.abelian))
	}
}

func TestAbelian(t *testing.T) {
	for _, g := range someGroups(t) {
		want := true
		for a := range g.N {
			for b := range g.N {
				want = want && of(g, a, b) == of(g, b, a)
			}
		}
		same(t, fmt.Sprint(g.N, " things"), told(table.Abelian(g)), right(want))
	}
}

// TestCayley: each group is one of permutations, of which no two are the same.
func TestCayley(t *testing.T) {
	for _, g := range someGroups(t) {
		moves, f := table.Cayley(g)
		same(t, "fault", f, api.Fault{})
		same(t, "how many", len(moves), g.N)
		texts := map[string]int{}
		for a, p := range moves {
			same(t, "permutation", perm.Check(p), api.Fault{})
			for x := range g.N {
				same(t, fmt.Sprint(x, " by ", a), p[x], of(g, x, a))
			}
			texts[fmt.Sprint(p)]++
			for b := 0; b < g.N; b += 1 + g.N/6 {
				same(t, fmt.Sprint("product of ", a, b), told(perm.Mul(p, moves[b])), right(moves[of(g, a, b)]))
			}
		}
		same(t, "different ones", len(texts), g.N)
	}
	same(t, "sides", told(table.Cayley(given(t, table.Dihedral, 3))),
		right("[[0 1 2 3 4 5] [1 2 0 5 3 4] [2 0 1 4 5 3] [3 4 5 0 1 2] [4 5 3 2 0 1] [5 3 4 1 2 0]]"))
}

// TestAnswersAreNew: what is done to an answer touches neither the group nor the next answer.
func TestAnswersAreNew(t *testing.T) {
	for _, g := range someGroups(t) {
		before := fmt.Sprint(g)
		orders, _ := table.Orders(g)
		first := fmt.Sprint(orders)
		spoil(orders)
		same(t, "orders", told(table.Orders(g)), right(first))
		moves, _ := table.Cayley(g)
		first = fmt.Sprint(moves)
		apart(t, "moves", moves)
		same(t, "moves", told(table.Cayley(g)), right(first))
		same(t, "group", g, before)
	}
}

func spoil(l []int) {
	for i := range l[:cap(l)] {
		l[:cap(l)][i] = -9
	}
}

// apart spoils lists one by one, with what lies behind them: those that follow must stay.
func apart(t *testing.T, what string, lists [][]int) {
	t.Helper()
	for i, l := range lists {
		behind := fmt.Sprint(lists[i+1:])
		spoil(l)
		same(t, what+" apart", lists[i+1:], behind)
	}
}
