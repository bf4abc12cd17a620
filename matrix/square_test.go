package matrix_test

import (
	"fmt"
	"math/big"
	"slices"
	"testing"

	"cayley/api"
)

func TestMul(t *testing.T) {
	for _, k := range []kind{{2, 1}, {2, 2}, {3, 1}, {3, 2}, {5, 1}, {7, 1}, {97, 1}} {
		for a := range all(k.p, k.n) {
			for b := range all(k.p, k.n) {
				same(t, fmt.Sprint("Mul of ", a, " and ", b, " by ", k.p), mul(k.p, a, b), answer{rows: product(k.p, a, b)})
			}
		}
	}
	by := &chance{state: 1}
	for _, k := range kinds() {
		for range 20 {
			a, b := by.rows(k), by.rows(k)
			same(t, fmt.Sprint("Mul of ", a, " and ", b, " by ", k.p), mul(k.p, a, b), answer{rows: product(k.p, a, b)})
		}
		most := rowsOf(slices.Repeat([]int{k.p - 1}, k.n*k.n), k.n)
		same(t, fmt.Sprint("Mul of ", most, " by ", k.p), mul(k.p, most, most), answer{rows: product(k.p, most, most)})
		one := ones(k.n)
		same(t, fmt.Sprint("Mul of the one and ", most), mul(k.p, one, most), answer{rows: most})
		same(t, fmt.Sprint("Mul of ", most, " and the one"), mul(k.p, most, one), answer{rows: most})
	}
}

func TestDet(t *testing.T) {
	lists := map[int][][]int{}
	for n := 1; n <= 6; n++ {
		lists[n] = permutations(n)
	}
	for k, m := range smallOnes() {
		same(t, fmt.Sprint("Det of ", m, " by ", k.p), det(k.p, m), answer{n: sumOf(k.p, m, lists[k.n])})
	}
	by := &chance{state: 2}
	for _, k := range kinds() {
		for range 20 {
			for _, m := range [][][]int{by.rows(k), by.upper(k), by.regular(k, by.order(k.n))} {
				same(t, fmt.Sprint("Det of ", m, " by ", k.p), det(k.p, m), answer{n: sumOf(k.p, m, lists[k.n])})
			}
		}
	}
	for n := 1; n <= 6; n++ {
		for _, w := range lists[n] {
			for _, p := range []int{2, 3, 97} {
				same(t, fmt.Sprint("Det of ", w, " by ", p), det(p, placed(w)), answer{n: sumOf(p, placed(w), lists[n])})
			}
		}
	}
}

// spanOf is how many lists the rows make, as sums of multiples.
func spanOf(p int, m [][]int) int {
	made := map[string]bool{}
	sums := [][]int{make([]int, len(m))}
	for _, row := range m {
		var more [][]int
		for _, sum := range sums {
			for often := range p {
				next := slices.Clone(sum)
				for i, a := range row {
					next[i] = (next[i] + often*a) % p
				}
				more = append(more, next)
			}
		}
		sums = more
	}
	for _, sum := range sums {
		made[fmt.Sprint(sum)] = true
	}
	return len(made)
}

// TestRankOfAll: independent rows make p to the power of how many they are.
func TestRankOfAll(t *testing.T) {
	for _, k := range []kind{{2, 1}, {2, 2}, {2, 3}, {2, 4}, {3, 1}, {3, 2}, {5, 1}, {5, 2}, {7, 1}, {7, 2}, {97, 1}} {
		for m := range all(k.p, k.n) {
			got := rank(k.p, m)
			made := 1
			for range got.n {
				made *= k.p
			}
			same(t, fmt.Sprint("what the rows of ", m, " make by ", k.p), made, spanOf(k.p, m))
			same(t, fmt.Sprint("Rank of ", m, " by ", k.p), got, answer{n: got.n})
		}
	}
}

// TestRank: regular ones around one that has so many rows.
func TestRank(t *testing.T) {
	by := &chance{state: 3}
	for _, k := range kinds() {
		for want := 0; want <= k.n; want++ {
			for range 5 {
				middle := rowsOf(make([]int, k.n*k.n), k.n)
				rows, columns := by.order(k.n), by.order(k.n)
				for i := range want {
					middle[rows[i]][columns[i]] = 1 + by.below(k.p-1)
				}
				m := product(k.p, product(k.p, by.regular(k, by.order(k.n)), middle), by.regular(k, by.order(k.n)))
				same(t, fmt.Sprint("Rank of ", m, " by ", k.p), rank(k.p, m), answer{n: want})
				same(t, fmt.Sprint("Rank of ", middle, " by ", k.p), rank(k.p, middle), answer{n: want})
			}
		}
	}
}

// isInverse: are m and what Inv answers the one, either way round?
func isInverse(t *testing.T, p int, m [][]int) {
	t.Helper()
	got := inv(p, m)
	if got.f != (api.Fault{}) || len(got.rows) != len(m) {
		t.Errorf("Inv of %v by %d: %v", m, p, got)
		return
	}
	for _, row := range got.rows {
		if len(row) != len(m) || slices.Min(row) < 0 || slices.Max(row) >= p {
			t.Errorf("Inv of %v by %d: %v", m, p, got.rows)
			return
		}
	}
	same(t, fmt.Sprint(m, " and its Inv by ", p), product(p, m, got.rows), ones(len(m)))
	same(t, fmt.Sprint(m, " behind its Inv by ", p), product(p, got.rows, m), ones(len(m)))
}

func TestInv(t *testing.T) {
	for k, m := range smallOnes() {
		if sumOf(k.p, m, permutations(k.n)) != 0 {
			isInverse(t, k.p, m)
		}
	}
	by := &chance{state: 4}
	for _, k := range kinds() {
		for range 20 {
			isInverse(t, k.p, by.regular(k, by.order(k.n)))
		}
		isInverse(t, k.p, ones(k.n))
	}
	for _, w := range permutations(6) {
		isInverse(t, 2, placed(w))
		isInverse(t, 97, placed(w))
	}
}

// TestProducts: Det of a product is the product of both Dets, and the inverse of
// a product is the product of the inverses, the other way round.
func TestProducts(t *testing.T) {
	by := &chance{state: 5}
	for _, k := range kinds() {
		a, b := by.regular(k, by.order(k.n)), by.regular(k, by.order(k.n))
		both := mul(k.p, a, b).rows
		same(t, fmt.Sprint("Det of ", both), det(k.p, both).n, det(k.p, a).n*det(k.p, b).n%k.p)
		same(t, fmt.Sprint("Inv of ", both), inv(k.p, both), mul(k.p, inv(k.p, b).rows, inv(k.p, a).rows))
		same(t, fmt.Sprint("Order of ", a, " and of its inverse"), order(k.p, a), order(k.p, inv(k.p, a).rows))
		same(t, fmt.Sprint("Order of what is conjugate to ", a), order(k.p, a), order(k.p, product(k.p, product(k.p, b, a), inv(k.p, b).rows)))
	}
}

func TestExamples(t *testing.T) {
	same(t, "Size of three rows by two", size(2, 3), answer{text: "168"})
	m := [][]int{{1, 1}, {1, 0}}
	same(t, "Cell", cell(2, m), answer{list: []int{1, 0}})
	same(t, "Det", det(2, m), answer{n: 1})
	same(t, "Rank", rank(2, m), answer{n: 2})
	same(t, "Order", order(2, m), answer{text: "3"})
	same(t, "Inv", inv(2, m), answer{rows: [][]int{{0, 1}, {1, 1}}})
	same(t, "Mul", mul(7, [][]int{{1, 2}, {3, 4}}, [][]int{{0, 1}, {1, 6}}), answer{rows: [][]int{{2, 6}, {4, 6}}})
}

// calls are all calls of one matrix, each told its own name.
func calls(p int, m [][]int) map[string]answer {
	out := map[string]answer{"Mul": mul(p, m, m)}
	for name, call := range callsOfOne() {
		out[name] = call(p, m)
	}
	return out
}

// TestSameAgain: the same is answered of the same, whatever is asked between.
func TestSameAgain(t *testing.T) {
	by := &chance{state: 6}
	for _, k := range kinds() {
		m := by.rows(k)
		first := calls(k.p, m)
		calls(k.p, by.rows(k))
		same(t, fmt.Sprint("again of ", m), calls(k.p, m), first)
	}
}

// TestOnlyRead: what is handed in is not changed, nor what lies behind it; rows
// may be one list, and so may both matrices.
func TestOnlyRead(t *testing.T) {
	by := &chance{state: 7}
	for _, k := range kinds() {
		memory := by.numbers(k.n*k.n+3, k.p)
		kept := slices.Clone(memory)
		var m [][]int
		for i := range k.n {
			m = append(m, memory[i*k.n:(i+1)*k.n]) // behind each row lies the next one
		}
		rows := append(slices.Clone(m), memory[:1], memory[1:2])
		lists := slices.Clone(rows)
		calls(k.p, rows[:k.n])
		same(t, fmt.Sprint("the numbers of ", m), memory, kept)
		for i, row := range rows {
			if len(row) != len(lists[i]) || &row[0] != &lists[i][0] {
				t.Errorf("the row %d of %v is another list", i, m)
			}
		}
		again := slices.Repeat([][]int{m[0]}, k.n)
		want := calls(k.p, rowsOf(slices.Repeat(m[0], k.n), k.n))
		same(t, fmt.Sprint("of one list as all rows: ", m[0]), calls(k.p, again), want)
		same(t, fmt.Sprint("the row ", m[0]), memory, kept)
	}
}

// TestNewMemory: what is answered shares no memory with what came in, and no two
// rows share any.
func TestNewMemory(t *testing.T) {
	by := &chance{state: 8}
	for _, k := range kinds() {
		for _, m := range [][][]int{by.regular(k, by.order(k.n)), ones(k.n)} {
			kept := fmt.Sprint(m)
			for name, got := range map[string]answer{"Mul": mul(k.p, m, ones(k.n)), "Inv": inv(k.p, m), "Cell": cell(k.p, m)} {
				lists := append(slices.Clone(got.rows), got.list)
				for i, list := range lists {
					whole := list[:cap(list)]
					for at := range whole {
						whole[at] = -1 - i
					}
				}
				for i, list := range lists {
					if slices.ContainsFunc(list, func(a int) bool { return a != -1-i }) {
						t.Errorf("%s of %v by %d: two lists share memory", name, m, k.p)
					}
				}
				same(t, fmt.Sprint(name, " by ", k.p, ": what came in"), fmt.Sprint(m), kept)
			}
		}
	}
}

// TestOrderDividesSize: as in all groups.
func TestOrderDividesSize(t *testing.T) {
	by := &chance{state: 9}
	for _, k := range kinds() {
		whole, right := new(big.Int).SetString(size(k.p, k.n).text, 10)
		if !right {
			t.Fatalf("Size of %v: %v", k, size(k.p, k.n))
		}
		for range 5 {
			m := by.regular(k, by.order(k.n))
			part, right := new(big.Int).SetString(order(k.p, m).text, 10)
			if !right || part.Sign() <= 0 || new(big.Int).Mod(whole, part).Sign() != 0 {
				t.Errorf("Order of %v by %d: %v of %v", m, k.p, part, whole)
			}
		}
	}
}
