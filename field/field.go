// Package field: reckoning modulo a prime.
package field

import "slices"

// Field has the numbers from 0 to P - 1. P is a prime below 2^31, so that the
// product of two of them is an int.
type Field struct {
	P int
}

// Prime: is n a prime?
func Prime(n int) bool {
	if n < 2 {
		return false
	}
	for d := 2; d <= n/d; d++ {
		if n%d == 0 {
			return false
		}
	}
	return true
}

// Mod is what is left of a; of a below 0, too, it is from 0 to P - 1.
func (f Field) Mod(a int) int {
	left := a % f.P
	if left < 0 {
		left += f.P
	}
	return left
}

// Inverse is the number whose product with a, which is not 0, is 1: a, P - 2
// times, as a, P - 1 times, is 1 (Fermat).
func (f Field) Inverse(a int) int {
	inverse := 1
	for n := f.P - 2; n > 0; n /= 2 {
		if n%2 == 1 {
			inverse = inverse * a % f.P
		}
		a = a * a % f.P
	}
	return inverse
}

// Kernel has independent lists that make all those lists that the independent
// lists of space make and that move takes to noughts alone. The lists of space
// are as long as each other, and so are those that move answers; move takes
// sums to sums, and what it answers is new memory.
func (f Field) Kernel(space [][]int, move func(list []int) []int) [][]int {
	var rows [][]int // each list behind where it is moved to
	width := 0
	for _, list := range space {
		moved := move(list)
		width = len(moved)
		rows = append(rows, append(moved, list...))
	}
	for column := range width {
		rows = f.cleared(rows, column)
	}
	for i, row := range rows {
		rows[i] = slices.Clone(row[width:])
	}
	return rows
}

// cleared is rows with 0 in a column: one row that has not is taken away, and
// so often from the others that they have.
func (f Field) cleared(rows [][]int, column int) [][]int {
	at := slices.IndexFunc(rows, func(row []int) bool { return row[column] != 0 })
	if at < 0 {
		return rows
	}
	away := rows[at]
	rows = slices.Delete(rows, at, at+1)
	inverse := f.Inverse(away[column])
	for _, row := range rows {
		f.Take(row, row[column]*inverse%f.P, away)
	}
	return rows
}

// Take takes another row away from row, which is as long, so often.
func (f Field) Take(row []int, often int, other []int) {
	for i, a := range other {
		row[i] = f.Mod(row[i] - often*a)
	}
}
