package matrix_test

import (
	"fmt"
	"iter"
	"math/big"
	"slices"
	"testing"

	"cayley/api"
	"cayley/matrix"
)

func fault(code, at int) api.Fault { return api.Fault{Code: code, At: at} }

// same holds two answers against each other; an empty list is a nil list.
func same(t *testing.T, what string, got, want any) {
	t.Helper()
	if fmt.Sprint(got) != fmt.Sprint(want) {
		t.Errorf("%s: %v, want %v", what, got, want)
	}
}

// answer is what a call answers; what it does not answer is empty.
type answer struct {
	rows [][]int
	list []int
	n    int
	text string
	f    api.Fault
}

// refused is the answer that has this fault, and nothing beside it.
func refused(f api.Fault) answer { return answer{f: f} }

func check(p int, m [][]int) answer { return answer{f: matrix.Check(p, m)} }

func mul(p int, a, b [][]int) answer {
	rows, f := matrix.Mul(p, a, b)
	return answer{rows: rows, f: f}
}

func det(p int, m [][]int) answer {
	n, f := matrix.Det(p, m)
	return answer{n: n, f: f}
}

func rank(p int, m [][]int) answer {
	n, f := matrix.Rank(p, m)
	return answer{n: n, f: f}
}

func inv(p int, m [][]int) answer {
	rows, f := matrix.Inv(p, m)
	return answer{rows: rows, f: f}
}

func order(p int, m [][]int) answer {
	text, f := matrix.Order(p, m)
	return answer{text: text, f: f}
}

func cell(p int, m [][]int) answer {
	list, f := matrix.Cell(p, m)
	return answer{list: list, f: f}
}

func size(p, n int) answer {
	text, f := matrix.Size(p, n)
	return answer{text: text, f: f}
}

// callsOfOne are the calls that take one matrix.
func callsOfOne() map[string]func(p int, m [][]int) answer {
	calls := callsOfRegular()
	calls["Check"], calls["Det"], calls["Rank"] = check, det, rank
	return calls
}

// callsOfRegular are the calls that take one regular matrix.
func callsOfRegular() map[string]func(p int, m [][]int) answer {
	return map[string]func(p int, m [][]int) answer{"Inv": inv, "Order": order, "Cell": cell}
}

func primes() []int {
	var out []int
	for p := 2; p <= 97; p++ {
		if !slices.ContainsFunc(out, func(q int) bool { return p%q == 0 }) {
			out = append(out, p)
		}
	}
	return out
}

func isPrime(p int) bool { return slices.Contains(primes(), p) }

// rowsOf are as many numbers as n times n, as rows.
func rowsOf(numbers []int, n int) [][]int {
	var rows [][]int
	for row := range slices.Chunk(numbers, n) {
		rows = append(rows, slices.Clone(row))
	}
	return rows
}

// allRows yields all matrices of n rows by p that have 0 where free is false.
func allRows(p, n int, free func(i, k int) bool) iter.Seq[[][]int] {
	return func(yield func(m [][]int) bool) {
		numbers := make([]int, n*n)
		for yield(rowsOf(numbers, n)) {
			i := 0
			for ; i < n*n; i++ {
				if !free(i/n, i%n) {
					continue
				}
				numbers[i] = (numbers[i] + 1) % p
				if numbers[i] > 0 {
					break
				}
			}
			if i == n*n {
				return
			}
		}
	}
}

// all yields all matrices of n rows by p.
func all(p, n int) iter.Seq[[][]int] {
	return allRows(p, n, func(i, k int) bool { return true })
}

// kind is a prime and a number of rows.
type kind struct{ p, n int }

// small are kinds of which there are so few that all can be gone through.
func small() []kind {
	return []kind{{2, 1}, {2, 2}, {2, 3}, {2, 4}, {3, 1}, {3, 2}, {3, 3}, {5, 1}, {5, 2}, {7, 1}, {7, 2}, {11, 1}, {11, 2}, {89, 1}, {97, 1}}
}

// smallOnes yields all matrices of small kinds.
func smallOnes() iter.Seq2[kind, [][]int] {
	return func(yield func(k kind, m [][]int) bool) {
		for _, k := range small() {
			for m := range all(k.p, k.n) {
				if !yield(k, m) {
					return
				}
			}
		}
	}
}

// ones is the matrix that changes none.
func ones(n int) [][]int {
	m := rowsOf(make([]int, n*n), n)
	for i := range m {
		m[i][i] = 1
	}
	return m
}

// product multiplies as it is defined.
func product(p int, a, b [][]int) [][]int {
	m := rowsOf(make([]int, len(a)*len(a)), len(a))
	for i := range a {
		for k := range a {
			for j := range a {
				m[i][k] = (m[i][k] + a[i][j]*b[j][k]) % p
			}
		}
	}
	return m
}

// permutations are all lists of the numbers from 0 to n - 1.
func permutations(n int) [][]int {
	if n == 0 {
		return [][]int{{}}
	}
	var out [][]int
	for _, w := range permutations(n - 1) {
		for at := range n {
			out = append(out, slices.Insert(slices.Clone(w), at, n-1))
		}
	}
	return out
}

// fallsOf is in how many pairs of places the greater number stands ahead.
func fallsOf(w []int) int {
	falls := 0
	for i, a := range w {
		for _, b := range w[:i] {
			if b > a {
				falls++
			}
		}
	}
	return falls
}

// sumOf is the determinant as a sum over the permutations (Leibniz).
func sumOf(p int, m [][]int, lists [][]int) int {
	sum := 0
	for _, w := range lists {
		term := 1
		for i, k := range w {
			term = term * m[i][k] % p
		}
		if fallsOf(w)%2 == 1 {
			term = p - term
		}
		sum += term
	}
	return sum % p
}

// placed is the matrix with 1 in each row i at the column w(i).
func placed(w []int) [][]int {
	m := rowsOf(make([]int, len(w)*len(w)), len(w))
	for i, k := range w {
		m[i][k] = 1
	}
	return m
}

// sizeOf is how many regular matrices there are, in another way than as rows:
// p to the power of n (n - 1) / 2, times what p^i - 1 is for i from 1 to n.
func sizeOf(p, n int) *big.Int {
	size := new(big.Int).Exp(big.NewInt(int64(p)), big.NewInt(int64(n*(n-1)/2)), nil)
	for i := 1; i <= n; i++ {
		power := new(big.Int).Exp(big.NewInt(int64(p)), big.NewInt(int64(i)), nil)
		size.Mul(size, power.Sub(power, big.NewInt(1)))
	}
	return size
}

// chance tells numbers that look taken by chance, the same ones each time.
type chance struct{ state uint64 }

func (c *chance) below(n int) int {
	c.state = c.state*6364136223846793005 + 1442695040888963407
	return int(c.state >> 33 % uint64(n))
}

// numbers are n of them below p.
func (c *chance) numbers(n, p int) []int {
	out := make([]int, n)
	for i := range out {
		out[i] = c.below(p)
	}
	return out
}

// rows is any matrix.
func (c *chance) rows(k kind) [][]int { return rowsOf(c.numbers(k.n*k.n, k.p), k.n) }

// upper is a regular matrix with 0 below the diagonal.
func (c *chance) upper(k kind) [][]int {
	m := c.rows(k)
	for i, row := range m {
		clear(row[:i])
		row[i] = 1 + c.below(k.p-1)
	}
	return m
}

// order is a permutation of n points.
func (c *chance) order(n int) []int {
	var w []int
	for i := range n {
		w = slices.Insert(w, c.below(i+1), i)
	}
	return w
}

// regular is a regular matrix in the cell w.
func (c *chance) regular(k kind, w []int) [][]int {
	return product(k.p, product(k.p, c.upper(k), placed(w)), c.upper(k))
}

// kinds are all primes with all numbers of rows.
func kinds() []kind {
	var out []kind
	for _, p := range primes() {
		for n := 1; n <= 6; n++ {
			out = append(out, kind{p, n})
		}
	}
	return out
}
