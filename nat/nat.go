// Package nat: whole numbers from 0 on, however long.
package nat

import (
	"math/bits"
	"strconv"
	"strings"
)

// A power of ten, so that the decimal text needs no division.
const (
	base  = 1000000000
	width = 9
)

// Nat is a number. The zero Nat is 0; a Nat does not change once it is made.
type Nat struct {
	parts []uint64 // each below base, the least first; the last one is not 0
}

// Of is the Nat that n is.
func Of(n uint64) Nat { return Nat{}.TimesPlus(0, n) }

// TimesPlus is a m + add.
func (a Nat) TimesPlus(m, add uint64) Nat {
	parts := make([]uint64, 0, len(a.parts)+3)
	carry := add
	for _, part := range a.parts {
		// part m + carry is below base 2^64, so the division cannot overflow.
		high, low := bits.Mul64(part, m)
		low, over := bits.Add64(low, carry, 0)
		quotient, rest := bits.Div64(high+over, low, base)
		parts = append(parts, rest)
		carry = quotient
	}
	for ; carry > 0; carry /= base {
		parts = append(parts, carry%base)
	}
	return Nat{parts: trimmed(parts)}
}

// trimmed takes the noughts away that lead the number.
func trimmed(parts []uint64) []uint64 {
	for len(parts) > 0 && parts[len(parts)-1] == 0 {
		parts = parts[:len(parts)-1]
	}
	return parts
}

// Div is how often m, which is above 0, goes into a, and what is left.
func (a Nat) Div(m uint64) (Nat, uint64) {
	parts := make([]uint64, len(a.parts))
	left := uint64(0)
	for i := len(a.parts) - 1; i >= 0; i-- {
		// What is left is below m, so what is divided is below base m: the
		// division cannot overflow, and its quotient is below base.
		high, low := bits.Mul64(left, base)
		low, over := bits.Add64(low, a.parts[i], 0)
		parts[i], left = bits.Div64(high+over, low, m)
	}
	return Nat{parts: trimmed(parts)}, left
}

// Mod is what is left of a by m, which is above 0.
func (a Nat) Mod(m uint64) uint64 {
	_, left := a.Div(m)
	return left
}

// Decimal is a's text, without noughts ahead.
func (a Nat) Decimal() string {
	if len(a.parts) == 0 {
		return "0"
	}
	var text strings.Builder
	last := len(a.parts) - 1
	text.WriteString(strconv.FormatUint(a.parts[last], 10))
	for i := last - 1; i >= 0; i-- {
		digits := strconv.FormatUint(a.parts[i], 10)
		text.WriteString(strings.Repeat("0", width-len(digits)))
		text.WriteString(digits)
	}
	return text.String()
}

// Gcd is the greatest number that divides a and b (of 0 and 0: 0).
func Gcd(a, b uint64) uint64 {
	for b > 0 {
		a, b = b, a%b
	}
	return a
}
