// Package whole: whole numbers, those below 0 too, however long.
package whole

import "cayley/nat"

// Number is a whole number. The zero Number is 0; a Number does not change once
// it is made.
type Number struct {
	below bool // is it below 0?
	size  nat.Nat
}

// Of is the Number that n is.
func Of(n int) Number {
	if n < 0 {
		return Number{below: true, size: nat.Of(-uint64(n))} // wraps round: the least int has no -n
	}
	return Number{size: nat.Of(uint64(n))}
}

// signed is the number of that size, below 0 or not; 0 is never below.
func signed(below bool, size nat.Nat) Number {
	return Number{below: below && !size.IsZero(), size: size}
}

// Sign is below 0, 0 or above 0, as a is.
func (a Number) Sign() int {
	if a.below {
		return -1
	}
	if a.size.IsZero() {
		return 0
	}
	return 1
}

// Size is a, or -a, if a is below 0.
func (a Number) Size() nat.Nat { return a.size }

// Negated is -a.
func (a Number) Negated() Number { return signed(!a.below, a.size) }

// Plus is a + b.
func (a Number) Plus(b Number) Number {
	if a.below == b.below {
		return signed(a.below, a.size.Plus(b.size))
	}
	if a.size.Compare(b.size) < 0 {
		a, b = b, a
	}
	return signed(a.below, a.size.Minus(b.size))
}

// Minus is a - b.
func (a Number) Minus(b Number) Number { return a.Plus(b.Negated()) }

// Times is a b.
func (a Number) Times(b Number) Number {
	return signed(a.below != b.below, a.size.Times(b.size))
}

// Over is how often b, which is not 0, goes into a, so that what is left is
// not below 0 and less than b in size.
func (a Number) Over(b Number) Number {
	times, left := a.size.Over(b.size)
	if a.below && !left.IsZero() {
		times = times.TimesPlus(1, 1)
	}
	return signed(a.below != b.below, times)
}

// Decimal is a's text, without noughts ahead.
func (a Number) Decimal() string {
	if a.below {
		return "-" + a.size.Decimal()
	}
	return a.size.Decimal()
}
