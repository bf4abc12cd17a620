package beads

import (
	"iter"

	"cayley/nat"
)

// divisors yields what divides n, rising.
func divisors(n int) iter.Seq[int] {
	return func(yield func(d int) bool) {
		for d := 1; d <= n; d++ {
			if n%d == 0 && !yield(d) {
				return
			}
		}
	}
}

// power is k to the power of n.
func power(k, n int) nat.Nat {
	p := nat.Of(1)
	for range n {
		p = p.TimesPlus(uint64(k), 0)
	}
	return p
}

// turns is how many colourings of so many numbers are like none of their turns.
type turns struct {
	size int
	all  nat.Nat
}

// lyndons yields, for each d that divides n, rising, how many Lyndon words of d
// numbers there are. Each colouring of d numbers is a colouring like none of its
// turns, of as many numbers as some e that divides d, again and again; and of
// the d turns of one that is like none of them, one is a Lyndon word.
func lyndons(n, k int) iter.Seq[nat.Nat] {
	return func(yield func(words nat.Nat) bool) {
		var ahead []turns
		for d := range divisors(n) {
			left := power(k, d)
			for _, shorter := range ahead {
				if d%shorter.size == 0 {
					left = left.Minus(shorter.all)
				}
			}
			ahead = append(ahead, turns{size: d, all: left})
			words, _ := left.Div(uint64(d))
			if !yield(words) {
				return
			}
		}
	}
}

// lyndon is how many Lyndon words of n numbers there are.
func lyndon(n, k int) nat.Nat {
	var last nat.Nat
	for words := range lyndons(n, k) {
		last = words // n itself is the last that divides n
	}
	return last
}

// necklaces is how many colourings of n numbers there are, but for turns: each
// is a turn of just one Lyndon word, again and again.
func necklaces(n, k int) nat.Nat {
	var sum nat.Nat
	for words := range lyndons(n, k) {
		sum = sum.Plus(words)
	}
	return sum
}

// bracelets is how many there are, but for turns and turning round. By Burnside,
// it is the mean of how many colourings each of the n turns and each of the n
// ways to turn round leaves as they are. The turns leave n times as many as there
// are necklaces. A way to turn round leaves those in which any two numbers that it
// swaps are alike: of an odd n each way has (n+1)/2 numbers that may be chosen; of
// an even n one half of the ways has n/2, and the other one n/2 + 1.
func bracelets(n, k int) nat.Nat {
	turned := necklaces(n, k)
	round := power(k, (n+1)/2).Plus(power(k, n/2+1)) // what two ways leave, one of each half
	all, _ := turned.Plus(turned).Plus(round).Div(4)
	return all
}
