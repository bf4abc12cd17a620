package perm

import (
	"slices"

	"cayley/api"
	"cayley/nat"
)

const maxRanked = 100 // points of a permutation that is ranked

// Rank is how many permutations of as many points are less, in decimal.
func Rank(p []int) (string, api.Fault) {
	if f := Check(p); f.Code != api.OK {
		return "", f
	}
	if len(p) > maxRanked {
		return "", api.Fault{Code: api.ErrMany}
	}
	rank := nat.Of(0)
	for i := range p {
		// Where i numbers are set, len(p) - i are left for the next place.
		rank = rank.TimesPlus(uint64(len(p)-i), lessBehind(p, i))
	}
	return rank.Decimal(), api.Fault{}
}

// lessBehind is how many numbers behind the place i are less than the one there.
func lessBehind(p []int, i int) uint64 {
	count := uint64(0)
	for _, x := range p[i+1:] {
		if x < p[i] {
			count++
		}
	}
	return count
}

// Next is the least permutation that is greater.
func Next(p []int) ([]int, api.Fault) {
	if f := Check(p); f.Code != api.OK {
		return nil, f
	}
	fall := startOfFall(p)
	if fall == 0 {
		return nil, api.Fault{Code: api.ErrNone}
	}
	next := slices.Clone(p)
	at := fall - 1
	other := len(next) - 1
	for next[other] < next[at] {
		other--
	}
	next[at], next[other] = next[other], next[at]
	slices.Reverse(next[fall:])
	return next, api.Fault{}
}

// startOfFall is the least place from which on all numbers fall: no other
// order of those is greater, so the one ahead of them has to grow.
func startOfFall(p []int) int {
	start := max(len(p)-1, 0)
	for start > 0 && p[start-1] > p[start] {
		start--
	}
	return start
}
