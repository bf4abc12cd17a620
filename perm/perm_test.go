package perm_test

import (
	"fmt"
	"math"
	"math/big"
	"slices"
	"strings"
	"testing"

	"cayley/api"
	"cayley/perm"
)

func TestMul(t *testing.T) {
	for n := range 5 {
		for _, p := range all(n) {
			for _, q := range all(n) {
				same(t, fmt.Sprint(p, q), told(perm.Mul(p, q)), right(product(p, q)))
			}
		}
	}
	same(t, "p first", told(perm.Mul([]int{1, 2, 0}, []int{1, 0, 2})), right("[0 2 1]"))
}

func TestInv(t *testing.T) {
	for n := range 6 {
		for _, p := range all(n) {
			got, f := perm.Inv(p)
			same(t, "fault", f, api.Fault{})
			same(t, fmt.Sprint(p), product(p, got), stays(n))
		}
	}
	got, _ := perm.Inv(ofShape(1000))
	same(t, "1000 points", product(ofShape(1000), got), stays(1000))
}

func TestPowBySteps(t *testing.T) {
	for n := range 6 {
		for _, p := range all(n) {
			inverse, _ := perm.Inv(p)
			up, down := stays(n), stays(n)
			for k := range 8 {
				same(t, fmt.Sprint(p, k), told(perm.Pow(p, k)), right(up))
				same(t, fmt.Sprint(p, -k), told(perm.Pow(p, -k)), right(down))
				up, down = product(up, p), product(down, inverse)
			}
		}
	}
}

// TestPowOfGreatNumbers holds Pow against squaring.
func TestPowOfGreatNumbers(t *testing.T) {
	for _, p := range [][]int{{0}, {1, 0}, {1, 2, 0, 3}, ofShape(5, 3, 2, 1, 7), ofShape(1000), ofShape(499, 501)} {
		for _, n := range []int{1 << 40, 1<<40 + 1, math.MaxInt - 1, math.MaxInt, -math.MaxInt, math.MinInt + 1, math.MinInt, -1 << 40} {
			same(t, fmt.Sprint(len(p), " points, ", n), told(perm.Pow(p, n)), right(squared(p, n)))
		}
	}
}

func squared(p []int, n int) []int {
	step := p
	left := uint64(n)
	if n < 0 {
		step = make([]int, len(p))
		for i, x := range p {
			step[x] = i
		}
		left = -left
	}
	out := stays(len(p))
	for ; left > 0; left /= 2 {
		if left%2 == 1 {
			out = product(out, step)
		}
		step = product(step, step)
	}
	return out
}

func TestCyclesByDefinition(t *testing.T) {
	for n := range 7 {
		for _, p := range all(n) {
			got, f := perm.Cycles(p)
			same(t, "fault", f, api.Fault{})
			followed := map[int]int{}
			for i, cycle := range got {
				if len(cycle) < 2 || slices.Min(cycle) != cycle[0] || i > 0 && got[i-1][0] >= cycle[0] {
					t.Errorf("%v: %v", p, got)
				}
				for k, x := range cycle {
					same(t, "follows", cycle[(k+1)%len(cycle)], p[x])
					followed[x]++
				}
			}
			for x := range n {
				want := 1
				if p[x] == x {
					want = 0
				}
				same(t, fmt.Sprint(p, " has ", x), followed[x], want)
			}
		}
	}
}

func TestCyclesAndText(t *testing.T) {
	cases := []struct {
		p            []int
		cycles, text string
	}{
		{nil, "[]", "()"},
		{[]int{0}, "[]", "()"},
		{[]int{0, 1, 2}, "[]", "()"},
		{[]int{1, 2, 0, 3}, "[[0 1 2]]", "(0 1 2)"},
		{[]int{2, 0, 1}, "[[0 2 1]]", "(0 2 1)"},
		{[]int{0, 2, 1}, "[[1 2]]", "(1 2)"},
		{[]int{3, 2, 1, 0}, "[[0 3] [1 2]]", "(0 3)(1 2)"},
		{[]int{5, 4, 2, 1, 3, 0}, "[[0 5] [1 4 3]]", "(0 5)(1 4 3)"},
		{append(stays(10), 11, 10), "[[10 11]]", "(10 11)"},
		{stays(1000), "[]", "()"},
	}
	for _, c := range cases {
		same(t, "cycles", told(perm.Cycles(c.p)), right(c.cycles))
		same(t, "text", told(perm.Text(c.p)), right(c.text))
	}
	whole := "(" + strings.Trim(fmt.Sprint(stays(1000)), "[]") + ")"
	same(t, "1000 points", told(perm.Text(ofShape(1000))), right(whole))
}

func TestShape(t *testing.T) {
	cases := []struct {
		p    []int
		want string
	}{
		{nil, "[]"},
		{[]int{0}, "[1]"},
		{[]int{0, 1}, "[1 1]"},
		{[]int{1, 2, 0, 3}, "[3 1]"},
		{ofShape(1, 2, 1, 3, 2, 10), "[10 3 2 2 1 1]"},
		{ofShape(1000), "[1000]"},
		{ofShape(1, 999), "[999 1]"},
	}
	for _, c := range cases {
		same(t, "shape", told(perm.Shape(c.p)), right(c.want))
	}
}

func TestOrderBySteps(t *testing.T) {
	for n := range 7 {
		for _, p := range all(n) {
			want := 1
			for q := p; !slices.Equal(q, stays(n)); q = product(q, p) {
				want++
			}
			same(t, fmt.Sprint(p), told(perm.Order(p)), right(want))
		}
	}
}

func TestOrderThatIsLong(t *testing.T) {
	cases := [][]int{
		{1000},
		{256, 243, 125, 49},
		{12, 18, 8, 27, 30, 4},
		{2, 3, 5, 7, 11, 13, 17, 19, 23, 29, 31, 37, 41, 43, 47, 53, 59, 61, 67, 71, 73, 79},
		{16, 9, 25, 7, 11, 13, 17, 19, 23, 29, 31, 37, 41, 43, 47, 53, 59, 61, 67, 71, 73, 83, 89},
		{64, 81, 125, 49, 121, 169, 289},
		{6, 10, 15, 21, 35, 77, 143, 221, 323},
	}
	for _, lengths := range cases {
		want := big.NewInt(1)
		for _, length := range lengths {
			l := big.NewInt(int64(length))
			shared := new(big.Int).GCD(nil, nil, want, l)
			want.Mul(want, l).Div(want, shared)
		}
		same(t, fmt.Sprint(lengths), told(perm.Order(ofShape(lengths...))), right(want))
	}
	same(t, "no points", told(perm.Order(nil)), right("1"))
}

func TestSignByPairs(t *testing.T) {
	for n := range 7 {
		for _, p := range all(n) {
			want := 1
			for k := range p {
				for i := range k {
					if p[i] > p[k] {
						want = -want
					}
				}
			}
			same(t, fmt.Sprint(p), told(perm.Sign(p)), right(want))
		}
	}
	same(t, "1000 points in one cycle", told(perm.Sign(ofShape(1000))), right(-1))
}

func TestSignOfProducts(t *testing.T) {
	for _, p := range all(5) {
		for _, q := range all(5) {
			a, _ := perm.Sign(p)
			b, _ := perm.Sign(q)
			m, _ := perm.Mul(p, q)
			c, _ := perm.Sign(m)
			same(t, fmt.Sprint(p, q), c, a*b)
		}
	}
}

// TestConj: there is one just where Shapes are the same.
func TestConj(t *testing.T) {
	for n := range 6 {
		for _, p := range all(n) {
			for _, q := range all(n) {
				a, _ := perm.Shape(p)
				b, _ := perm.Shape(q)
				c, f := perm.Conj(p, q)
				if !slices.Equal(a, b) {
					same(t, fmt.Sprint(p, q), told(c, f), answer{"[]", fault(api.ErrNone, 0)})
					continue
				}
				same(t, fmt.Sprint(p, q), f, api.Fault{})
				same(t, "permutation", perm.Check(c), api.Fault{})
				same(t, fmt.Sprint(p, q), product(c, q), product(p, c))
			}
		}
	}
}

func TestConjOfManyPoints(t *testing.T) {
	p, q := ofShape(1, 2, 300, 2, 395, 300), ofShape(300, 300, 2, 2, 395, 1)
	c, f := perm.Conj(p, q)
	same(t, "fault", f, api.Fault{})
	same(t, "permutation", perm.Check(c), api.Fault{})
	same(t, "c q", product(c, q), product(p, c))
	same(t, "other shapes", told(perm.Conj(ofShape(500, 500), ofShape(499, 501))), answer{"[]", fault(api.ErrNone, 0)})
}

func TestRankAndNextOfAll(t *testing.T) {
	for n := range 7 {
		list := all(n)
		for i, p := range list {
			same(t, fmt.Sprint("rank of ", p), told(perm.Rank(p)), right(i))
			next := answer{"[]", fault(api.ErrNone, 0)}
			if i+1 < len(list) {
				next = right(list[i+1])
			}
			same(t, fmt.Sprint("behind ", p), told(perm.Next(p)), next)
		}
	}
}

func TestRankAtItsLimit(t *testing.T) {
	for _, n := range []int{20, 21, 99, 100} {
		last := new(big.Int).MulRange(1, int64(n))
		last.Sub(last, big.NewInt(1))
		same(t, fmt.Sprint("last of ", n), told(perm.Rank(falling(n))), right(last))
		same(t, fmt.Sprint("first of ", n), told(perm.Rank(stays(n))), right("0"))
	}
	second := append([]int{1, 0}, stays(100)[2:]...)
	same(t, "1 0 2 ..", told(perm.Rank(second)), right(new(big.Int).MulRange(1, 99)))
	for _, n := range []int{101, 1000} {
		same(t, "too many", told(perm.Rank(stays(n))), answer{"", fault(api.ErrMany, 0)})
	}
}

func TestNextOfManyPoints(t *testing.T) {
	want := stays(1000)
	want[998], want[999] = 999, 998
	same(t, "first", told(perm.Next(stays(1000))), right(want))
	highest := append([]int{0}, falling(1000)[:999]...)
	same(t, "all behind falls", told(perm.Next(highest)), right(append([]int{1, 0}, stays(1000)[2:]...)))
}
