package abel

import (
	"slices"

	"cayley/known"
	"cayley/set"
)

// characters are all those of g by its exponent e. They grow with a subgroup,
// from that of the one alone on, by the least thing that it does not have. Two
// of them differ first at such a thing: what stands for any other one hangs on
// what stands ahead of it. So they rise, if what may stand for such a thing is
// tried from the least on.
func characters(g known.Group, e int) [][]int {
	lists := [][]int{make([]int, g.N)}
	made := set.Of(g.One)
	for made != g.All() {
		a := (g.All() &^ made).List()[0]
		var grown [][]int
		for _, l := range lists {
			for value := range e {
				if longer, is := extended(g, e, made, l, a, value); is {
					grown = append(grown, longer)
				}
			}
		}
		lists = grown
		made = g.Made(made | set.Of(a))
	}
	return lists
}

// extended is the character l of the subgroup made, so that value stands for a,
// on all that a and made make; and whether there is one: each thing there is one
// of made times a power of a, and where such a power comes back into made, what
// stands for it must be what stands there already.
func extended(g known.Group, e int, made set.Set, l []int, a, value int) ([]int, bool) {
	out := slices.Clone(l)
	power, sum := a, value
	for !made.Has(power) {
		for _, b := range made.List() {
			out[g.Product(b, power)] = (l[b] + sum) % e
		}
		power, sum = g.Product(power, a), (sum+value)%e
	}
	return out, sum == l[power]
}

// kinds are the lists of Kinds. Where a list goes on behind a number d, what is
// left must have d twice: once for d, and once for all that follows; so d is at
// most the root of what is left, or all of it.
func kinds(n int) [][]int {
	var lists [][]int
	var goOn func(ahead []int, last, left int)
	goOn = func(ahead []int, last, left int) {
		for d := max(last, 2); d <= left/d; d += last {
			if left%(d*d) == 0 {
				goOn(append(ahead, d), d, left/d)
			}
		}
		if left > 1 {
			ahead = append(ahead, left)
		}
		lists = append(lists, slices.Clone(ahead))
	}
	goOn(nil, 1, n)
	return lists
}
