package nat

import (
	"cmp"
	"math/bits"
)

// IsZero: is a 0?
func (a Nat) IsZero() bool { return len(a.parts) == 0 }

// Compare is below 0, 0 or above 0, as a is less than b, b or more.
func (a Nat) Compare(b Nat) int {
	if len(a.parts) != len(b.parts) {
		return cmp.Compare(len(a.parts), len(b.parts))
	}
	for i := len(a.parts) - 1; i >= 0; i-- {
		if a.parts[i] != b.parts[i] {
			return cmp.Compare(a.parts[i], b.parts[i])
		}
	}
	return 0
}

// part is the i-th part, from 0 on; beyond the number it is 0.
func (a Nat) part(i int) uint64 {
	if i < len(a.parts) {
		return a.parts[i]
	}
	return 0
}

// Plus is a + b.
func (a Nat) Plus(b Nat) Nat {
	parts := make([]uint64, max(len(a.parts), len(b.parts))+1)
	carry := uint64(0)
	for i := range parts {
		sum := a.part(i) + b.part(i) + carry
		parts[i], carry = sum%base, sum/base
	}
	return Nat{parts: trimmed(parts)}
}

// Minus is a - b, where b is at most a.
func (a Nat) Minus(b Nat) Nat {
	parts := make([]uint64, len(a.parts))
	borrowed := uint64(0)
	for i := range parts {
		rest := base + a.parts[i] - b.part(i) - borrowed
		parts[i], borrowed = rest%base, 1-rest/base
	}
	return Nat{parts: trimmed(parts)}
}

// Times is a b.
func (a Nat) Times(b Nat) Nat {
	parts := make([]uint64, len(a.parts)+len(b.parts))
	for i, part := range a.parts {
		carry := uint64(0)
		for k, other := range b.parts {
			sum := parts[i+k] + part*other + carry // below base base, so below 2^64
			parts[i+k], carry = sum%base, sum/base
		}
		parts[i+len(b.parts)] = carry // nothing stands there yet
	}
	return Nat{parts: trimmed(parts)}
}

// Over is how often b, which is above 0, goes into a, and what is left.
func (a Nat) Over(b Nat) (Nat, Nat) {
	if len(b.parts) == 1 {
		times, left := a.Div(b.parts[0])
		return times, Of(left)
	}
	parts := make([]uint64, len(a.parts))
	var left Nat
	for i := len(a.parts) - 1; i >= 0; i-- {
		left = left.TimesPlus(base, a.parts[i])
		parts[i], left = left.once(b)
	}
	return Nat{parts: trimmed(parts)}, left
}

// once is Over of an a that is below base b, where b has two parts or more.
// It is guessed by b's two highest parts, taken as one number, and by a's from
// the same place on. As that number is at least base, the guess is less than 1
// too much before it is rounded down: it is the true answer, or one more.
func (a Nat) once(b Nat) (uint64, Nat) {
	if a.Compare(b) < 0 {
		return 0, a
	}
	last := len(b.parts) - 1
	high, low := bits.Mul64(a.part(last+1)*base+a.part(last), base)
	low, over := bits.Add64(low, a.part(last-1), 0)
	times, _ := bits.Div64(high+over, low, b.parts[last]*base+b.parts[last-1])
	product := b.TimesPlus(times, 0)
	if a.Compare(product) < 0 {
		times--
		product = product.Minus(b)
	}
	return times, a.Minus(product)
}

// Shared is the greatest number that divides a and b (of 0 and 0: 0).
func Shared(a, b Nat) Nat {
	for !b.IsZero() {
		_, left := a.Over(b)
		a, b = b, left
	}
	return a
}
