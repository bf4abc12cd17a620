package abel_test

import (
	"fmt"
	"math/big"
	"slices"
	"testing"

	"cayley/abel"
	"cayley/api"
	"cayley/table"
)

func fault(code, at int) api.Fault { return api.Fault{Code: code, At: at} }

// same holds two answers against each other; an empty list is a nil list.
func same(t *testing.T, what string, got, want any) {
	t.Helper()
	if fmt.Sprint(got) != fmt.Sprint(want) {
		t.Errorf("%s: %v, want %v", what, got, want)
	}
}

// answer is what a call answers; what it does not answer is empty.
type answer struct {
	list   []int
	number int
	lists  [][]int
	texts  []string
	f      api.Fault
}

func invariants(g api.Group) answer {
	list, f := abel.Invariants(g)
	return answer{list: list, f: f}
}

func dual(g api.Group) answer {
	exponent, lists, f := abel.Dual(g)
	return answer{number: exponent, lists: lists, f: f}
}

func present(rows [][]int, n int) answer {
	texts, parts, f := abel.Present(rows, n)
	return answer{texts: texts, number: parts, f: f}
}

func kinds(n int) answer {
	lists, f := abel.Kinds(n)
	return answer{lists: lists, f: f}
}

// refused is the answer that has this fault, and nothing beside it.
func refused(f api.Fault) answer { return answer{f: f} }

// ofGroup are the calls of a group.
func ofGroup() map[string]func(g api.Group) answer {
	return map[string]func(g api.Group) answer{"Invariants": invariants, "Dual": dual}
}

// given makes a group, or ends the test.
func given(t *testing.T, make func(n int) (api.Group, api.Fault), n int) api.Group {
	t.Helper()
	g, f := make(n)
	if f != (api.Fault{}) {
		t.Fatalf("of %d: %v", n, f)
	}
	return g
}

// cyclics is the product of the cyclic groups of so many things.
func cyclics(t *testing.T, sizes ...int) api.Group {
	t.Helper()
	product := given(t, table.Cyclic, 1)
	for _, n := range sizes {
		var f api.Fault
		product, f = table.Product(product, given(t, table.Cyclic, n))
		same(t, "fault", f, api.Fault{})
	}
	return product
}

// renamed calls each thing a of g by the number name(a).
func renamed(g api.Group, name func(a int) int) api.Group {
	out := api.Group{N: g.N, Mul: make([]int, g.N*g.N)}
	for a := range g.N {
		for b := range g.N {
			out.Mul[name(a)*g.N+name(b)] = name(of(g, a, b))
		}
	}
	return out
}

// namings are ways to call n things: as they are called, and by other numbers,
// so that the one is not 0.
func namings(n int) []func(a int) int {
	step := 7
	for ; gcd(step, n) > 1; step++ {
	}
	return []func(a int) int{
		func(a int) int { return a },
		func(a int) int { return (n + 1 - a) % n },
		func(a int) int { return n - 1 - a },
		func(a int) int { return (step*a + n/2) % n },
	}
}

func gcd(a, b int) int {
	for b > 0 {
		a, b = b, a%b
	}
	return a
}

// primePowers are those of which n is the product.
func primePowers(n int) []int {
	var powers []int
	for p := 2; n > 1; p++ {
		power := 1
		for ; n%p == 0; n /= p {
			power *= p
		}
		if power > 1 {
			powers = append(powers, power)
		}
	}
	return powers
}

// What follows tells the chapter's words again, without the program.

func of(g api.Group, a, b int) int { return g.Mul[a*g.N+b] }

func oneIn(g api.Group) int {
	for e := range g.N {
		if of(g, e, e) == e {
			return e
		}
	}
	return -1
}

// kindsOf has each divisor of n, ahead of all lists for what is left whose first
// number it divides.
func kindsOf(n int) [][]int {
	if n == 1 {
		return [][]int{nil}
	}
	var out [][]int
	for d := 2; d <= n; d++ {
		if n%d > 0 {
			continue
		}
		for _, l := range kindsOf(n / d) {
			if len(l) == 0 || l[0]%d == 0 {
				out = append(out, append([]int{d}, l...))
			}
		}
	}
	return out
}

// isCharacter: is that of a b always what is left of the sum of a's and b's?
func isCharacter(g api.Group, e int, l []int) bool {
	if len(l) != g.N || slices.ContainsFunc(l, func(v int) bool { return v < 0 || v >= e }) {
		return false
	}
	for at, c := range g.Mul {
		if l[c] != (l[at/g.N]+l[at%g.N])%e {
			return false
		}
	}
	return true
}

// everyCharacter tries all lists, from the least on.
func everyCharacter(g api.Group, e int) [][]int {
	var out [][]int
	l := make([]int, g.N)
	for {
		if isCharacter(g, e, l) {
			out = append(out, slices.Clone(l))
		}
		at := g.N - 1
		for ; at >= 0 && l[at] == e-1; at-- {
			l[at] = 0
		}
		if at < 0 {
			return out
		}
		l[at]++
	}
}

// charactersOf are those of the product of the cyclic groups of sizes, the last
// of which all others divide, with its things called by name: for each thing b
// there is one, which takes a to the sum of all a(i) b(i) e / sizes(i).
func charactersOf(sizes []int, name func(a int) int) (int, [][]int) {
	e, n := 1, 1
	for _, size := range sizes {
		e, n = size, n*size
	}
	var out [][]int
	for b := range n {
		l := make([]int, n)
		for a := range n {
			x, y := a, b
			for _, size := range slices.Backward(sizes) {
				l[name(a)] += x % size * (y % size) * (e / size)
				x, y = x/size, y/size
			}
			l[name(a)] %= e
		}
		out = append(out, l)
	}
	slices.SortFunc(out, slices.Compare)
	return e, out
}

func matrixOf(rows [][]int) [][]*big.Int {
	var out [][]*big.Int
	for _, r := range rows {
		var line []*big.Int
		for _, a := range r {
			line = append(line, big.NewInt(int64(a)))
		}
		out = append(out, line)
	}
	return out
}

// determinant goes along the first row.
func determinant(m [][]*big.Int) *big.Int {
	if len(m) == 0 {
		return big.NewInt(1)
	}
	sum := new(big.Int)
	for j := range m {
		var rest [][]*big.Int
		for _, r := range m[1:] {
			rest = append(rest, append(slices.Clone(r[:j]), r[j+1:]...))
		}
		term := new(big.Int).Mul(m[0][j], determinant(rest))
		if j%2 == 1 {
			term.Neg(term)
		}
		sum.Add(sum, term)
	}
	return sum
}

// choices has all lists of k numbers from 0 to n - 1 that rise.
func choices(n, k int) [][]int {
	if k == 0 {
		return [][]int{nil}
	}
	var out [][]int
	for last := k - 1; last < n; last++ {
		for _, l := range choices(last, k-1) {
			out = append(out, append(l, last))
		}
	}
	return out
}

// presentByMinors: the product of the k first numbers is the greatest one that
// divides all determinants of k rows and k columns.
func presentByMinors(rows [][]int, n int) answer {
	m := matrixOf(rows)
	var out answer
	ahead := big.NewInt(1)
	for k := 1; ; k++ {
		shared := new(big.Int)
		for _, across := range choices(len(m), k) {
			for _, down := range choices(n, k) {
				var part [][]*big.Int
				for _, i := range across {
					var line []*big.Int
					for _, j := range down {
						line = append(line, m[i][j])
					}
					part = append(part, line)
				}
				shared.GCD(nil, nil, shared, new(big.Int).Abs(determinant(part)))
			}
		}
		if shared.Sign() == 0 {
			out.number = n - k + 1
			return out
		}
		if next := new(big.Int).Quo(shared, ahead); next.Cmp(big.NewInt(1)) > 0 {
			out.texts = append(out.texts, next.String())
		}
		ahead = shared
	}
}

// presentBySteps takes what is least in size of all that is left, and lessens
// all else by it, until it divides all: then it is one of the numbers.
func presentBySteps(rows [][]int, n int) answer {
	m := matrixOf(rows)
	out := answer{number: n}
	for {
		i, j := leastOf(m)
		if i < 0 {
			return out
		}
		if clears(m, i, j) {
			if size := new(big.Int).Abs(m[i][j]); size.Cmp(big.NewInt(1)) > 0 {
				out.texts = append(out.texts, size.String())
			}
			out.number--
			m = slices.Delete(m, i, i+1)
			for k := range m {
				m[k] = slices.Delete(m[k], j, j+1)
			}
		}
	}
}

// leastOf is where what is least in size, but not 0, stands; or -1.
func leastOf(m [][]*big.Int) (int, int) {
	row, column := -1, -1
	for i, r := range m {
		for j, a := range r {
			if a.Sign() != 0 && (row < 0 || a.CmpAbs(m[row][column]) < 0) {
				row, column = i, j
			}
		}
	}
	return row, column
}

// clears lessens the other rows and columns by those of i and j; does what
// stands there divide all else then, with nothing beside it?
func clears(m [][]*big.Int, i, j int) bool {
	pivot := m[i][j]
	clear := true
	for k := range m {
		if k != i {
			times := new(big.Int).Quo(m[k][j], pivot)
			for c := range m[k] {
				m[k][c] = new(big.Int).Sub(m[k][c], new(big.Int).Mul(times, m[i][c]))
			}
			clear = clear && m[k][j].Sign() == 0
		}
	}
	for c := range m[i] {
		if c != j {
			times := new(big.Int).Quo(m[i][c], pivot)
			for k := range m {
				m[k][c] = new(big.Int).Sub(m[k][c], new(big.Int).Mul(times, m[k][j]))
			}
			clear = clear && m[i][c].Sign() == 0
		}
	}
	if !clear {
		return false
	}
	for k := range m {
		for _, a := range m[k] {
			if new(big.Int).Rem(a, pivot).Sign() != 0 {
				for c := range m[i] {
					m[i][c] = new(big.Int).Add(m[i][c], m[k][c])
				}
				return false
			}
		}
	}
	return true
}

// numbers tells numbers that look thrown, the same ones each time.
func numbers(seed uint64) func(most int) int {
	return func(most int) int {
		seed = seed*6364136223846793005 + 1442695040888963407
		return int(seed>>33%uint64(2*most+1)) - most
	}
}

// thrown has so many rows of n numbers of at most that size.
func thrown(number func(most int) int, many, n, most int) [][]int {
	rows := make([][]int, many)
	for i := range rows {
		rows[i] = make([]int, n)
		for j := range rows[i] {
			rows[i][j] = number(most)
		}
	}
	return rows
}
