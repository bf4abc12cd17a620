package matrix_test

import (
	"fmt"
	"testing"
)

// uppers yields all regular matrices with 0 below the diagonal.
func uppers(k kind) [][][]int {
	var out [][][]int
	lists := permutations(k.n)
	for m := range allRows(k.p, k.n, func(i, at int) bool { return i <= at }) {
		if sumOf(k.p, m, lists) != 0 {
			out = append(out, m)
		}
	}
	return out
}

// TestCells makes all u x v there are: each regular matrix is among them, in just
// one cell, which is what Cell answers.
func TestCells(t *testing.T) {
	for _, k := range []kind{{2, 1}, {2, 2}, {2, 3}, {2, 4}, {3, 1}, {3, 2}, {3, 3}, {5, 1}, {5, 2}, {7, 1}, {7, 2}, {11, 1}, {97, 1}} {
		cells := map[string]string{}
		sides := uppers(k)
		for _, w := range permutations(k.n) {
			x := placed(w)
			for _, u := range sides {
				left := product(k.p, u, x)
				for _, v := range sides {
					m := product(k.p, left, v)
					if was, ok := cells[fmt.Sprint(m)]; ok && was != fmt.Sprint(w) {
						t.Fatalf("%v by %d is in the cells %s and %v", m, k.p, was, w)
					}
					cells[fmt.Sprint(m)] = fmt.Sprint(w)
				}
			}
		}
		same(t, fmt.Sprint("how many stand in cells of ", k), len(cells), sizeOf(k.p, k.n))
		lists := permutations(k.n)
		for m := range all(k.p, k.n) {
			if sumOf(k.p, m, lists) != 0 {
				got := cell(k.p, m)
				same(t, fmt.Sprint("Cell of ", m, " by ", k.p), got.list, cells[fmt.Sprint(m)])
				same(t, fmt.Sprint("beside the Cell of ", m), got, answer{list: got.list})
			}
		}
	}
}

// TestCell makes matrices of each cell.
func TestCell(t *testing.T) {
	by := &chance{state: 13}
	for n := 1; n <= 6; n++ {
		for _, w := range permutations(n) {
			for _, p := range []int{2, 3, 5, 23, 97} {
				m := by.regular(kind{p, n}, w)
				same(t, fmt.Sprint("Cell of ", m, " by ", p), cell(p, m), answer{list: w})
				same(t, fmt.Sprint("Cell of ", w), cell(p, placed(w)), answer{list: w})
			}
		}
	}
	for _, k := range kinds() {
		for range 10 {
			w := by.order(k.n)
			m := by.regular(k, w)
			same(t, fmt.Sprint("Cell of ", m, " by ", k.p), cell(k.p, m), answer{list: w})
		}
		var rising []int
		for i := range k.n {
			rising = append(rising, i)
		}
		m := by.upper(k)
		same(t, fmt.Sprint("Cell of ", m, " by ", k.p), cell(k.p, m), answer{list: rising})
	}
}
