package matrix

import (
	"slices"

	"cayley/api"
	"cayley/field"
)

// square is a matrix with nothing wrong. Its rows are not changed.
type square struct {
	by   field.Field
	rows [][]int
}

// opened is a matrix that came in, if nothing is wrong with it.
func opened(p int, m [][]int) (square, api.Fault) {
	if f := Check(p, m); f.Code != api.OK {
		return square{}, f
	}
	return square{by: field.Field{P: p}, rows: m}, api.Fault{}
}

// times is the product of s and another one with as many rows, in new memory.
func (s square) times(other square) square {
	product := make([][]int, len(s.rows))
	for i, row := range s.rows {
		product[i] = make([]int, len(row))
		for k := range product[i] {
			sum := 0
			for j, a := range row {
				sum += a * other.rows[j][k]
			}
			product[i][k] = s.by.Mod(sum)
		}
	}
	return square{by: s.by, rows: product}
}

// one is the matrix that changes none with as many rows as s.
func (s square) one() square {
	rows := make([][]int, len(s.rows))
	for i := range rows {
		rows[i] = make([]int, len(rows))
		rows[i][i] = 1
	}
	return square{by: s.by, rows: rows}
}

// isOne: is s the one?
func (s square) isOne() bool {
	return slices.EqualFunc(s.rows, s.one().rows, slices.Equal)
}

// cleared goes through the rows from the last one up, and tells of each that is
// not 0 throughout where its first number stands that is not 0, and what it is.
// It makes that number 1 and takes the row from all others, so that they have 0
// there. It answers the rows that come out, in new memory. A row may be longer
// than there are rows: what stands behind is only taken along.
func (s square) cleared(tell func(row, column, number int)) [][]int {
	var rows [][]int
	for _, row := range s.rows {
		rows = append(rows, slices.Clone(row))
	}
	for i, row := range slices.Backward(rows) {
		column := slices.IndexFunc(row[:len(rows)], func(a int) bool { return a != 0 })
		if column < 0 {
			continue
		}
		tell(i, column, row[column])
		inverse := s.by.Inverse(row[column])
		for k, a := range row {
			row[k] = s.by.Mod(a * inverse)
		}
		for k, other := range rows {
			if k != i {
				s.by.Take(other, other[column], row)
			}
		}
	}
	return rows
}

// rank is how many rows are independent: those that are not cleared away.
func (s square) rank() int {
	rank := 0
	s.cleared(func(row, column, number int) { rank++ })
	return rank
}

func (s square) isRegular() bool { return s.rank() == len(s.rows) }

// cell is in which column each row of a regular s has its first number when the
// rows below are taken away, and these numbers are told. To take rows from those
// above them is to multiply by a u from the left; each row is 0 left of its
// first number then, so that columns, taken from those behind them, which is to
// multiply by a v from the right, leave no other number. (Rows below have been
// told by the time that anything is taken from them.)
func (s square) cell(tell func(number int)) []int {
	columns := make([]int, len(s.rows))
	s.cleared(func(row, column, number int) {
		columns[row] = column
		tell(number)
	})
	return columns
}

// inverse is the inverse of a regular s. The rows are cleared with those of the
// one behind them: then they are the one's rows in another order, and behind
// them stands what has made them so.
func (s square) inverse() square {
	wide, inverse := square{by: s.by}, s.one()
	for i, behind := range inverse.rows {
		wide.rows = append(wide.rows, slices.Concat(s.rows[i], behind))
	}
	columns := make([]int, len(s.rows))
	rows := wide.cleared(func(row, column, number int) { columns[row] = column })
	for i, row := range rows {
		inverse.rows[columns[i]] = row[len(rows):]
	}
	return inverse
}
