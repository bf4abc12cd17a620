package perm

import (
	"iter"
	"slices"
	"strconv"
	"strings"

	"cayley/api"
	"cayley/nat"
)

// cyclesOf yields all cycles of a permutation, those of one point too, each
// from its least point on, by their least points. Each is a list of its own,
// so that whoever takes it may keep it.
func cyclesOf(p []int) iter.Seq[[]int] {
	return func(yield func([]int) bool) {
		seen := make([]bool, len(p))
		for first := range p {
			if seen[first] {
				continue
			}
			var cycle []int
			for x := first; !seen[x]; x = p[x] {
				seen[x] = true
				cycle = append(cycle, x)
			}
			if !yield(cycle) {
				return
			}
		}
	}
}

// movedCyclesOf yields those of cyclesOf whose points are moved.
func movedCyclesOf(p []int) iter.Seq[[]int] {
	return func(yield func([]int) bool) {
		for cycle := range cyclesOf(p) {
			if len(cycle) > 1 && !yield(cycle) {
				return
			}
		}
	}
}

// Cycles are those of all points that are moved, by their least points.
func Cycles(p []int) ([][]int, api.Fault) {
	if f := Check(p); f.Code != api.OK {
		return nil, f
	}
	return slices.Collect(movedCyclesOf(p)), api.Fault{}
}

// Shape tells how long all cycles are, the longest first.
func Shape(p []int) ([]int, api.Fault) {
	if f := Check(p); f.Code != api.OK {
		return nil, f
	}
	var shape []int
	for cycle := range cyclesOf(p) {
		shape = append(shape, len(cycle))
	}
	slices.SortFunc(shape, func(a, b int) int { return b - a })
	return shape, api.Fault{}
}

// Order is the least n above 0 with which Pow stays, in decimal.
func Order(p []int) (string, api.Fault) {
	if f := Check(p); f.Code != api.OK {
		return "", f
	}
	order := nat.Of(1)
	for cycle := range cyclesOf(p) {
		length := uint64(len(cycle))
		shared := nat.Gcd(length, order.Mod(length))
		order = order.TimesPlus(length/shared, 0)
	}
	return order.Decimal(), api.Fault{}
}

// Sign is 1 if p has an even number of pairs that change their order, else -1.
func Sign(p []int) (int, api.Fault) {
	if f := Check(p); f.Code != api.OK {
		return 0, f
	}
	sign := 1
	for cycle := range cyclesOf(p) {
		// A cycle of k points is a product of k - 1 swaps, each of the sign -1.
		if len(cycle)%2 == 0 {
			sign = -sign
		}
	}
	return sign, api.Fault{}
}

// Conj is a c for which c q is p c: it moves each cycle of p, point by point,
// to one of q that is as long.
func Conj(p, q []int) ([]int, api.Fault) {
	if f := checkPair(p, q); f.Code != api.OK {
		return nil, f
	}
	left := make([][][]int, len(q)+1) // by their lengths: cycles of q that nothing is moved to so far
	for cycle := range cyclesOf(q) {
		left[len(cycle)] = append(left[len(cycle)], cycle)
	}
	c := make([]int, len(p))
	for cycle := range cyclesOf(p) {
		alike := left[len(cycle)]
		if len(alike) == 0 {
			return nil, api.Fault{Code: api.ErrNone}
		}
		for i, x := range cycle {
			c[x] = alike[0][i]
		}
		left[len(cycle)] = alike[1:]
	}
	return c, api.Fault{}
}

// Text is the Cycles, each in brackets; of what stays a pair of brackets.
func Text(p []int) (string, api.Fault) {
	if f := Check(p); f.Code != api.OK {
		return "", f
	}
	var text strings.Builder
	for cycle := range movedCyclesOf(p) {
		writeCycle(&text, cycle)
	}
	if text.Len() == 0 {
		writeCycle(&text, nil)
	}
	return text.String(), api.Fault{}
}

func writeCycle(text *strings.Builder, cycle []int) {
	text.WriteByte('(')
	for i, x := range cycle {
		if i > 0 {
			text.WriteByte(' ')
		}
		text.WriteString(strconv.Itoa(x))
	}
	text.WriteByte(')')
}
