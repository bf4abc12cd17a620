package matrix

import (
	"slices"
	"strconv"

	"cayley/api"
	"cayley/nat"
)

// Order is how often a regular matrix has to be taken to be the one, in decimal.
func Order(p int, m [][]int) (string, api.Fault) {
	s, f := regular(p, m)
	if f.Code != api.OK {
		return "", f
	}
	return strconv.Itoa(s.order()), api.Fault{}
}

// Size is how many regular matrices of n rows there are, in decimal: each row is
// none of those that the rows ahead of it make.
func Size(p, n int) (string, api.Fault) {
	if !isTaken(p) {
		return "", api.Fault{Code: api.ErrRange, At: 1}
	}
	if n < 1 || n > maxRows {
		return "", api.Fault{Code: api.ErrRange, At: 2}
	}
	size, made := nat.Of(1), 1
	for range n {
		size = size.TimesPlus(uint64(raised(p, n)-made), 0)
		made *= p
	}
	return size.Decimal(), api.Fault{}
}

// raised is p to the power of n. That of the greatest prime and of as many as
// there may be rows is below 2^40.
func raised(p, n int) int {
	power := 1
	for range n {
		power *= p
	}
	return power
}

// order is how often a regular s has to be taken to be the one: of primes that
// make it the one, each is left out without which they still do. What is left is
// below p^n, so that it is an int: the powers of s are all sums of multiples of
// the first n (Cayley and Hamilton), and none is 0.
func (s square) order() int {
	primes := exponent(s.by.P, len(s.rows))
	for i := 0; i < len(primes); {
		rest := slices.Delete(slices.Clone(primes), i, i+1)
		if s.often(rest).isOne() {
			primes = rest
		} else {
			i++
		}
	}
	order := 1
	for _, q := range primes {
		order *= q
	}
	return order
}

// often is s, as many times as the product of numbers above 0 says.
func (s square) often(numbers []int) square {
	for _, n := range numbers {
		s = s.power(n)
	}
	return s
}

// power is s, n times; n is above 0.
func (s square) power(n int) square {
	power := s
	for n--; n > 0; n /= 2 {
		if n%2 == 1 {
			power = power.times(s)
		}
		s = s.times(s)
	}
	return power
}

// exponent are primes, some of them again and again: each regular matrix of n
// rows, as many times as their product says, is the one. By numbers of some
// field beyond 0 to p - 1 it can be written with 0 below the diagonal; what stands
// in the diagonal solves an equation of the degree n or less, so that, p^d - 1
// times, it is 1, for some d up to n. With 1 throughout the diagonal, the matrix
// is the one after as many times as a power of p that is not below n.
func exponent(p, n int) []int {
	var primes []int
	for power := 1; power < n; power *= p {
		primes = append(primes, p)
	}
	for _, part := range parts(p, n) {
		primes = append(primes, primesOf(part)...)
	}
	return primes
}

// parts are n numbers, so that p^d - 1 is, for each d up to n, the product of
// those whose places, from 1 on, divide d: so what all these have in common is
// told once. (They are the cyclotomic polynomials at p.)
func parts(p, n int) []int {
	var found []int
	for d := 1; d <= n; d++ {
		part := raised(p, d) - 1
		for i, lesser := range found {
			if d%(i+1) == 0 {
				part /= lesser
			}
		}
		found = append(found, part)
	}
	return found
}

// primesOf are the primes whose product is n, rising.
func primesOf(n int) []int {
	var primes []int
	for q := 2; q <= n/q; q++ {
		for n%q == 0 {
			primes = append(primes, q)
			n /= q
		}
	}
	if n > 1 {
		primes = append(primes, n)
	}
	return primes
}
