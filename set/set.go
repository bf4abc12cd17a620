// Package set: sets of things of a group, as bits.
package set

import "math/bits"

// Set has the thing a where its bit a is 1. One word is enough for each set:
// a group has at most api.MaxGroup things.
type Set uint64

// Of has the things that are handed over, each from 0 to 63.
func Of(things ...int) Set {
	var s Set
	for _, a := range things {
		s |= 1 << a
	}
	return s
}

// Has: is a one of s?
func (s Set) Has(a int) bool { return s>>a&1 == 1 }

// In: is each thing of s one of t?
func (s Set) In(t Set) bool { return s&^t == 0 }

// Len is how many things s has.
func (s Set) Len() int { return bits.OnesCount64(uint64(s)) }

// List has the things of s; it rises, and is new memory.
func (s Set) List() []int {
	list := make([]int, 0, s.Len())
	for rest := uint64(s); rest != 0; rest &= rest - 1 {
		list = append(list, bits.TrailingZeros64(rest))
	}
	return list
}
