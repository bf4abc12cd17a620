package abel

import (
	"slices"

	"cayley/nat"
	"cayley/whole"
)

// row is a relation; it does not change once it is made.
type row []whole.Number

func rowsOf(lists [][]int) []row {
	rows := make([]row, len(lists))
	for i, l := range lists {
		for _, a := range l {
			rows[i] = append(rows[i], whole.Of(a))
		}
	}
	return rows
}

// less is r without so many times s.
func (r row) less(times whole.Number, s row) row {
	if times.Sign() == 0 {
		return r
	}
	out := make(row, len(r))
	for i := range r {
		out[i] = r[i].Minus(times.Times(s[i]))
	}
	return out
}

// ladder has at each place j a row whose first entry that is not 0 stands at j,
// or none.
type ladder []row

// take makes r one of the relations that follow from l.
func (l ladder) take(r row) {
	for j := range l {
		if r[j].Sign() == 0 {
			continue
		}
		if l[j] == nil {
			l[j] = r
			return
		}
		for r[j].Sign() != 0 { // Euclid's way
			l[j], r = r, l[j].less(l[j][j].Over(r[j]), r)
		}
	}
}

// reduce makes all entries above a first one less than it: else they would
// become ever longer.
func (l ladder) reduce() {
	for j, r := range l {
		for i := range j {
			if r != nil && l[i] != nil {
				l[i] = l[i].less(l[i][j].Over(r[j]), r)
			}
		}
	}
}

// climbed has rows of so many entries, independent of each other, from which
// the same relations follow.
func climbed(rows []row, width int) []row {
	l := make(ladder, width)
	for _, r := range rows {
		l.take(r)
		l.reduce()
	}
	return slices.DeleteFunc(l, func(r row) bool { return r == nil })
}

// turned has the columns of rows of so many entries.
func turned(rows []row, width int) []row {
	columns := make([]row, width)
	for i := range columns {
		for _, r := range rows {
			columns[i] = append(columns[i], r[i])
		}
	}
	return columns
}

// isDiagonal: is each entry of the i-th row but the i-th 0?
func isDiagonal(rows []row) bool {
	for i, r := range rows {
		for j, a := range r {
			if i != j && a.Sign() != 0 {
				return false
			}
		}
	}
	return true
}

// diagonal has the sizes of the entries, none of them 0, to which relations of
// n things come down, if these may be chosen anew: each one tells how often one
// of the things is the zero thing. Rows and columns are climbed by turns. The
// first entry of all becomes less in size each time, or it divides its row: that
// is 0 behind it ever after, and it is the next one's turn.
func diagonal(rows []row, n int) []nat.Nat {
	rows = climbed(rows, n)
	rank := len(rows)
	rows = climbed(turned(rows, n), rank)
	for !isDiagonal(rows) {
		rows = climbed(turned(rows, rank), rank)
	}
	sizes := make([]nat.Nat, rank)
	for i, r := range rows {
		sizes[i] = r[i].Size()
	}
	return sizes
}

// divisors has numbers above 1, in decimal, each of which divides the next one,
// whose cyclic groups have the same product as those of sizes.
func divisors(sizes []nat.Nat) []string {
	one := nat.Of(1)
	var texts []string
	for i := range sizes {
		for j := i + 1; j < len(sizes); j++ {
			shared := nat.Shared(sizes[i], sizes[j])
			rest, _ := sizes[i].Over(shared)
			sizes[i], sizes[j] = shared, rest.Times(sizes[j])
		}
		if sizes[i].Compare(one) > 0 {
			texts = append(texts, sizes[i].Decimal())
		}
	}
	return texts
}
