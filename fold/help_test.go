package fold_test

import (
	"fmt"
	"maps"
	"slices"
	"testing"

	"cayley/api"
	"cayley/fold"
)

func fault(code, at int) api.Fault { return api.Fault{Code: code, At: at} }

// same holds two answers against each other; an empty list is a nil list.
func same(t *testing.T, what string, got, want any) {
	t.Helper()
	if fmt.Sprint(got) != fmt.Sprint(want) {
		t.Errorf("%s: %v, want %v", what, got, want)
	}
}

// answer is what a call answers; what it does not answer is empty.
type answer struct {
	words [][]int
	n     int
	is    bool
	f     api.Fault
}

// refused is the answer that has this fault, and nothing beside it.
func refused(f api.Fault) answer { return answer{f: f} }

func basis(l [][]int) answer {
	words, f := fold.Basis(l)
	return answer{words: words, f: f}
}

func rank(l [][]int) answer {
	n, f := fold.Rank(l)
	return answer{n: n, f: f}
}

func index(l [][]int, letters int) answer {
	n, f := fold.Index(l, letters)
	return answer{n: n, f: f}
}

func member(l [][]int, w []int) answer {
	is, f := fold.Member(l, w)
	return answer{is: is, f: f}
}

func equal(l, m [][]int) answer {
	is, f := fold.Same(l, m)
	return answer{is: is, f: f}
}

func meet(l, m [][]int) answer {
	words, f := fold.Meet(l, m)
	return answer{words: words, f: f}
}

// callsOfOne are those that take one list, with what else they take.
func callsOfOne() map[string]func(l [][]int) answer {
	return map[string]func(l [][]int) answer{
		"Check":                    func(l [][]int) answer { return answer{f: fold.Check(l)} },
		"Member":                   func(l [][]int) answer { return member(l, []int{1, 2}) },
		"Member of a wrong word":   func(l [][]int) answer { return faultOr(fold.Check(l), member(l, []int{1, 0})) },
		"Basis":                    basis,
		"Rank":                     rank,
		"Index":                    func(l [][]int) answer { return index(l, 26) },
		"Index of too few letters": func(l [][]int) answer { return faultOr(fold.Check(l), index(l, 0)) },
	}
}

// faultOr is what a call answers that tells a fault in any case: it must be f,
// if there is one, and else it is left out.
func faultOr(f api.Fault, got answer) answer {
	if f == (api.Fault{}) {
		return answer{}
	}
	return got
}

// callsOfTwo are those that take two lists.
func callsOfTwo() map[string]func(l, m [][]int) answer {
	return map[string]func(l, m [][]int) answer{"Same": equal, "Meet": meet}
}

// words are all of up to most letters among 1 to n and their opposites, short ones first.
func words(n, most int) [][]int {
	out := [][]int{{}}
	for at := 0; at < len(out) && len(out[at]) < most; at++ {
		for x := -n; x <= n; x++ {
			if x != 0 {
				out = append(out, append(slices.Clone(out[at]), x))
			}
		}
	}
	return out
}

// reducedWords are those of words that are reduced.
func reducedWords(n, most int) [][]int {
	return slices.DeleteFunc(words(n, most), func(w []int) bool { return !isReduced(w) })
}

// lists are all of words that have letters, and have up to most of them together.
func lists(n, most int) [][][]int {
	out := [][][]int{{}}
	for at := 0; at < len(out); at++ {
		for _, w := range words(n, most-letters(out[at]))[1:] {
			out = append(out, append(slices.Clone(out[at]), w))
		}
	}
	return out
}

// letters is how many letters the words of a list have together.
func letters(l [][]int) int { return len(slices.Concat(l...)) }

func isReduced(w []int) bool { return slices.Equal(w, shortened(w)) }

// shortened is what parts make, one behind the other, reduced.
func shortened(parts ...[]int) []int {
	w := slices.Concat(parts...)
	for i := 1; i < len(w); i++ {
		if w[i-1] == -w[i] {
			w = slices.Delete(w, i-1, i+1)
			i = max(0, i-2)
		}
	}
	return w
}

// back is w's inverse.
func back(w []int) []int {
	out := make([]int, len(w))
	for i, x := range w {
		out[len(w)-1-i] = -x
	}
	return out
}

// power is a word, n times.
func power(w []int, n int) []int { return slices.Repeat(w, n) }

// key is a reduced word as a text of one byte a letter.
func key(w []int) string {
	text := make([]byte, len(w))
	for i, x := range w {
		text[i] = byte('a' + x)
	}
	return string(text)
}

// things are keys of the reduced words of up to 4 letters that are products of
// l's words and their inverses, found by products of up to between letters.
func things(l [][]int, between int) map[string]bool {
	var makers [][]int
	for _, w := range l {
		makers = append(makers, w, back(w))
	}
	seen := map[string]bool{"": true}
	for todo := [][]int{{}}; len(todo) > 0; todo = todo[1:] {
		for _, w := range makers {
			if next := shortened(todo[0], w); len(next) <= between && !seen[key(next)] {
				seen[key(next)] = true
				todo = append(todo, next)
			}
		}
	}
	maps.DeleteFunc(seen, func(k string, _ bool) bool { return len(k) > 4 })
	return seen
}

// products are all reduced ones of up to most words of l and their inverses, as
// lists of numbers of words, from 1 on, below 0 for an inverse, without the one.
func products(l [][]int, most int) [][]int { return reducedWords(len(l), most)[1:] }

// spelt is the word of a product.
func spelt(l [][]int, product []int) []int {
	var out []int
	for _, k := range product {
		if k > 0 {
			out = shortened(out, l[k-1])
		} else {
			out = shortened(out, back(l[-k-1]))
		}
	}
	return out
}

// moves are permutations of the same points, one for each letter from 1 on.
type moves [][]int

// to is where a word moves a point, letter by letter.
func (p moves) to(at int, w []int) int {
	for _, x := range w {
		if x > 0 {
			at = p[x-1][at]
		} else {
			at = slices.Index(p[-x-1], at)
		}
	}
	return at
}

// ways are of each point a word that moves point 0 there, as chance had it: not
// the shortest ones.
func (p moves) ways() [][]int {
	out := make([][]int, len(p[0]))
	seen := []int{0}
	for len(seen) > 0 {
		at := seen[len(seen)-1]
		grew := false
		for x := len(p); x > 0 && !grew; x-- {
			if to := p[x-1][at]; to != 0 && out[to] == nil {
				out[to] = append(slices.Clone(out[at]), x)
				seen = append(seen, to)
				grew = true
			}
		}
		if !grew {
			seen = seen[:len(seen)-1]
		}
	}
	return out
}

// allMove: do the letters move point 0 to each point?
func (p moves) allMove() bool {
	for _, w := range p.ways()[1:] {
		if w == nil {
			return false
		}
	}
	return true
}

// keep is a list of words that make the subgroup of all words that move point 0
// to itself, as Schreier tells it.
func (p moves) keep() [][]int {
	var out [][]int
	ways := p.ways()
	for at := range ways {
		for x := 1; x <= len(p); x++ {
			if w := shortened(ways[at], []int{x}, back(ways[p[x-1][at]])); len(w) > 0 {
				out = append(out, w)
			}
		}
	}
	return out
}

// pairs are the moves of pairs of points, as far as point 0 with point 0 is moved.
func pairs(p, q moves) moves {
	type pair struct{ a, b int }
	number := map[pair]int{{0, 0}: 0}
	all := []pair{{0, 0}}
	out := make(moves, len(p))
	for at := 0; at < len(all); at++ {
		for x := range p {
			to := pair{p[x][all[at].a], q[x][all[at].b]}
			if _, known := number[to]; !known {
				number[to] = len(all)
				all = append(all, to)
			}
			out[x] = append(out[x], number[to])
		}
	}
	return out
}

// permutations are all of n points.
func permutations(n int) [][]int {
	if n == 0 {
		return [][]int{{}}
	}
	var out [][]int
	for _, p := range permutations(n - 1) {
		for at := range n {
			out = append(out, slices.Insert(slices.Clone(p), at, n-1))
		}
	}
	return out
}

// allMoves are all of up to most points by two letters that move point 0 to each point.
func allMoves(most int) []moves {
	var out []moves
	for n := 1; n <= most; n++ {
		for _, p := range permutations(n) {
			for _, q := range permutations(n) {
				if m := (moves{p, q}); m.allMove() {
					out = append(out, m)
				}
			}
		}
	}
	return out
}

// chance yields numbers without order, always the same ones.
type chance struct{ state uint64 }

func newChance(seed int) *chance {
	return &chance{uint64(seed)*2862933555777941757 + 3037000493}
}

// below is a number from 0 to n - 1.
func (c *chance) below(n int) int {
	c.state = c.state*6364136223846793005 + 1442695040888963407
	return int(c.state>>33) % n
}

// word has n letters among 1 to most and their opposites.
func (c *chance) word(n, most int) []int {
	w := make([]int, n)
	for i := range w {
		w[i] = c.below(most) + 1
		if c.below(2) == 0 {
			w[i] = -w[i]
		}
	}
	return w
}

// list has n words of up to most letters each.
func (c *chance) list(n, most, letters int) [][]int {
	out := make([][]int, n)
	for i := range out {
		out[i] = c.word(c.below(most+1), letters)
	}
	return out
}

// permutation is one of n points without order.
func (c *chance) permutation(n int) []int {
	p := make([]int, n)
	for i := range p {
		j := c.below(i + 1)
		p[i] = p[j]
		p[j] = i
	}
	return p
}

// moves are of n points, by so many letters, and move point 0 to each point.
func (c *chance) moves(n, letters int) moves {
	for {
		p := make(moves, letters)
		for x := range p {
			p[x] = c.permutation(n)
		}
		if p.allMove() {
			return p
		}
	}
}
