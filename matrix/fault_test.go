package matrix_test

import (
	"fmt"
	"math"
	"slices"
	"testing"

	"cayley/api"
	"cayley/matrix"
)

// wrongPrimes are no primes from 2 to 97.
func wrongPrimes() []int {
	out := []int{math.MinInt, -97, -7, -2, 101, 103, 127, 65537, 1 << 32, 1<<32 + 2, 1<<32 + 15, math.MaxInt32, math.MaxInt - 24, math.MaxInt}
	for p := -1; p <= 110; p++ {
		if !isPrime(p) {
			out = append(out, p)
		}
	}
	return out
}

// flawed is a wrong matrix, and what is told of it.
type flawed struct {
	m [][]int
	f api.Fault
}

// flaws are wrong matrices by p.
func flaws(p int) []flawed {
	many := fault(api.ErrMany, 0)
	one := ones(3)
	return []flawed{
		{nil, many},
		{[][]int{}, many},
		{ones(7), many},
		{ones(8), many},
		{make([][]int, 7), many},
		{make([][]int, 1000), many},
		{slices.Repeat([][]int{{-1}}, 7), many},
		{[][]int{nil}, fault(api.ErrSize, 0)},
		{[][]int{{}}, fault(api.ErrSize, 0)},
		{[][]int{{0, 0}}, fault(api.ErrSize, 0)},
		{[][]int{{1}, {1}}, fault(api.ErrSize, 0)},
		{[][]int{{0, 1}, {1}}, fault(api.ErrSize, 1)},
		{[][]int{{0, 1}, nil}, fault(api.ErrSize, 1)},
		{[][]int{{0, 1}, {1, 0, 0}}, fault(api.ErrSize, 1)},
		{[][]int{one[0], one[1], {0, 1}}, fault(api.ErrSize, 2)},
		{[][]int{one[0], one[1], make([]int, 5000)}, fault(api.ErrSize, 2)},
		{append(ones(6)[:5], make([]int, 7)), fault(api.ErrSize, 5)},
		{[][]int{{p}}, fault(api.ErrForm, 0)},
		{[][]int{{-1}}, fault(api.ErrForm, 0)},
		{[][]int{{math.MinInt}}, fault(api.ErrForm, 0)},
		{[][]int{{math.MaxInt}}, fault(api.ErrForm, 0)},
		{[][]int{{1<<32 + 1}}, fault(api.ErrForm, 0)},
		{[][]int{{1, 0}, {0, p}}, fault(api.ErrForm, 1)},
		{[][]int{{1, 0}, {-p, 1}}, fault(api.ErrForm, 1)},
		{[][]int{{0, p}, {1, 0}}, fault(api.ErrForm, 0)},
		{append(ones(6)[:5], []int{0, 0, 0, 0, 0, p + 1}), fault(api.ErrForm, 5)},
		// Of one row ErrSize is told ahead, of several rows the first one that is wrong.
		{[][]int{{-1}, {1, 0}}, fault(api.ErrSize, 0)},
		{[][]int{{0, 1}, {p, 1, 0}}, fault(api.ErrSize, 1)},
		{[][]int{{0, p}, {1}}, fault(api.ErrForm, 0)},
		{[][]int{{0}, {p, 1}}, fault(api.ErrSize, 0)},
		{[][]int{one[0], {0, 0, -1}, {0, 1}}, fault(api.ErrForm, 1)},
		{[][]int{one[0], {0, 0}, {0, 1, p}}, fault(api.ErrSize, 1)},
		{[][]int{one[0], {p, 0, -1}, {-1, 1, p}}, fault(api.ErrForm, 1)},
	}
}

func TestFaultsOfPrime(t *testing.T) {
	for name, call := range callsOfOne() {
		for _, p := range wrongPrimes() {
			want := refused(fault(api.ErrRange, 1))
			same(t, fmt.Sprint(name, " by ", p), call(p, ones(2)), want)
			for _, wrong := range flaws(p) {
				same(t, fmt.Sprint(name, " of what is wrong, by ", p), call(p, wrong.m), want)
			}
		}
		for _, p := range primes() {
			same(t, fmt.Sprint(name, " by ", p), call(p, ones(2)).f, api.Fault{})
		}
	}
	for _, p := range wrongPrimes() {
		same(t, fmt.Sprint("Mul by ", p), mul(p, ones(2), ones(2)), refused(fault(api.ErrRange, 1)))
		same(t, fmt.Sprint("Mul of nothing by ", p), mul(p, nil, ones(3)), refused(fault(api.ErrRange, 1)))
	}
}

func TestFaultsOfMatrix(t *testing.T) {
	for name, call := range callsOfOne() {
		for _, p := range []int{2, 3, 53, 97} {
			for _, wrong := range flaws(p) {
				same(t, fmt.Sprint(name, " of ", wrong.m, " by ", p), call(p, wrong.m), refused(wrong.f))
			}
		}
	}
}

// TestEachNumber: one number of a right matrix is made wrong, and each that may
// stand there is not.
func TestEachNumber(t *testing.T) {
	for _, k := range kinds() {
		for i := range k.n {
			for at := range k.n {
				m := ones(k.n)
				for _, wrong := range []int{-1, k.p, k.p + 1, 2 * k.p, -k.p} {
					m[i][at] = wrong
					same(t, fmt.Sprint("Check of ", m, " by ", k.p), matrix.Check(k.p, m), fault(api.ErrForm, i))
				}
				for _, right := range []int{0, 1, k.p - 1} {
					m[i][at] = right
					same(t, fmt.Sprint("Check of ", m, " by ", k.p), matrix.Check(k.p, m), api.Fault{})
				}
			}
		}
	}
}

// TestFaultsOfPair: what is wrong with a is told ahead of what is wrong with b,
// and both ahead of ErrSize.
func TestFaultsOfPair(t *testing.T) {
	for _, p := range []int{2, 7, 97} {
		for n := 1; n <= 6; n++ {
			for other := 1; other <= 6; other++ {
				want := fault(api.ErrSize, 0)
				if n == other {
					want = api.Fault{}
				}
				got := mul(p, ones(n), ones(other))
				same(t, fmt.Sprint("Mul of ", n, " rows and ", other), got.f, want)
				if n != other {
					same(t, fmt.Sprint("Mul of ", n, " rows and ", other), got, refused(want))
				}
			}
		}
		for _, wrong := range flaws(p) {
			for n := 1; n <= 6; n++ {
				same(t, fmt.Sprint("Mul of ", wrong.m, " and one of ", n), mul(p, wrong.m, ones(n)), refused(wrong.f))
				same(t, fmt.Sprint("Mul of one of ", n, " and ", wrong.m), mul(p, ones(n), wrong.m), refused(wrong.f))
			}
			for _, second := range flaws(p) {
				same(t, fmt.Sprint("Mul of ", wrong.m, " and ", second.m), mul(p, wrong.m, second.m), refused(wrong.f))
			}
		}
	}
}

func TestFaultsOfSize(t *testing.T) {
	wrong := []int{math.MinInt, -6, -1, 0, 7, 8, 12, 1000, 1 << 32, 1<<32 + 1, math.MaxInt}
	for _, p := range wrongPrimes() {
		for n := 1; n <= 6; n++ {
			same(t, fmt.Sprint("Size of ", p, " and ", n), size(p, n), refused(fault(api.ErrRange, 1)))
		}
		for _, n := range wrong {
			same(t, fmt.Sprint("Size of ", p, " and ", n), size(p, n), refused(fault(api.ErrRange, 1)))
		}
	}
	for _, p := range primes() {
		for _, n := range wrong {
			same(t, fmt.Sprint("Size of ", p, " and ", n), size(p, n), refused(fault(api.ErrRange, 2)))
		}
	}
}

// TestNotRegular: of those that are not regular there is no inverse, no order
// and no cell; of those that are, there are.
func TestNotRegular(t *testing.T) {
	lists := map[int][][]int{}
	for n := 1; n <= 6; n++ {
		lists[n] = permutations(n)
	}
	for k, m := range smallOnes() {
		regular := sumOf(k.p, m, lists[k.n]) != 0
		for name, call := range callsOfRegular() {
			got := call(k.p, m)
			if regular && got.f != (api.Fault{}) {
				t.Errorf("%s of %v by %d: %v", name, m, k.p, got)
			}
			if !regular {
				same(t, fmt.Sprint(name, " of ", m, " by ", k.p), got, refused(fault(api.ErrNone, 0)))
			}
		}
	}
	by := &chance{state: 19}
	for _, k := range kinds() {
		m := by.regular(k, by.order(k.n))
		m[by.below(k.n)] = make([]int, k.n)
		again := by.regular(k, by.order(k.n))
		again[0] = slices.Clone(again[k.n-1])
		for name, call := range callsOfRegular() {
			same(t, fmt.Sprint(name, " of ", m, " by ", k.p), call(k.p, m), refused(fault(api.ErrNone, 0)))
			if k.n > 1 {
				same(t, fmt.Sprint(name, " of ", again, " by ", k.p), call(k.p, again), refused(fault(api.ErrNone, 0)))
			}
		}
	}
}
