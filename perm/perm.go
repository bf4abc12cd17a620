// Package perm: permutations. See doc/01-perm.md.
package perm

import "cayley/api"

// Check tells what is wrong with p.
func Check(p []int) api.Fault {
	if len(p) > api.MaxPoint {
		return api.Fault{Code: api.ErrMany}
	}
	seen := make([]bool, len(p))
	for i, x := range p {
		if x < 0 || x >= len(p) {
			return api.Fault{Code: api.ErrRange, At: i}
		}
		if seen[x] {
			return api.Fault{Code: api.ErrTwice, At: i}
		}
		seen[x] = true
	}
	return api.Fault{}
}

// checkPair tells what is wrong with two that are to go together.
func checkPair(p, q []int) api.Fault {
	if f := Check(p); f.Code != api.OK {
		return f
	}
	if f := Check(q); f.Code != api.OK {
		return f
	}
	if len(p) != len(q) {
		return api.Fault{Code: api.ErrSize}
	}
	return api.Fault{}
}

// Mul is the product: it moves as p does first and then as q does.
func Mul(p, q []int) ([]int, api.Fault) {
	if f := checkPair(p, q); f.Code != api.OK {
		return nil, f
	}
	product := make([]int, len(p))
	for i, x := range p {
		product[i] = q[x]
	}
	return product, api.Fault{}
}

// Inv is the one whose product with p stays.
func Inv(p []int) ([]int, api.Fault) {
	if f := Check(p); f.Code != api.OK {
		return nil, f
	}
	inverse := make([]int, len(p))
	for i, x := range p {
		inverse[x] = i
	}
	return inverse, api.Fault{}
}

// Pow is p, n times; of n below 0 its inverse, -n times.
func Pow(p []int, n int) ([]int, api.Fault) {
	if f := Check(p); f.Code != api.OK {
		return nil, f
	}
	power := make([]int, len(p))
	for cycle := range cyclesOf(p) {
		// -n is never reckoned: the least int has none.
		step := n % len(cycle)
		if step < 0 {
			step += len(cycle)
		}
		for i, x := range cycle {
			power[x] = cycle[(i+step)%len(cycle)]
		}
	}
	return power, api.Fault{}
}
