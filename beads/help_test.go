package beads_test

import (
	"fmt"
	"iter"
	"slices"
	"testing"

	"cayley/api"
	"cayley/beads"
)

func fault(code, at int) api.Fault { return api.Fault{Code: code, At: at} }

// same holds two answers against each other; an empty list is a nil list.
func same(t *testing.T, what string, got, want any) {
	t.Helper()
	if fmt.Sprint(got) != fmt.Sprint(want) {
		t.Errorf("%s: %v, want %v", what, got, want)
	}
}

// answer is what a call answers; what it does not answer is empty.
type answer struct {
	text  string
	words [][]int
	list  []int
	n     int
	f     api.Fault
}

// refused is the answer that has this fault, and nothing beside it.
func refused(f api.Fault) answer { return answer{f: f} }

func counted(text string) answer { return answer{text: text} }

func necklaces(n, k int) answer {
	text, f := beads.Necklaces(n, k)
	return answer{text: text, f: f}
}

func bracelets(n, k int) answer {
	text, f := beads.Bracelets(n, k)
	return answer{text: text, f: f}
}

func lyndon(n, k int) answer {
	text, f := beads.Lyndon(n, k)
	return answer{text: text, f: f}
}

func words(n, k int) answer {
	words, f := beads.Words(n, k)
	return answer{words: words, f: f}
}

func bruijn(n, k int) answer {
	list, f := beads.Bruijn(n, k)
	return answer{list: list, f: f}
}

func least(w []int) answer {
	n, f := beads.Least(w)
	return answer{n: n, f: f}
}

func factor(w []int) answer {
	list, f := beads.Factor(w)
	return answer{list: list, f: f}
}

// callsThatCount are the calls of n and k that answer a number.
func callsThatCount() map[string]func(n, k int) answer {
	return map[string]func(n, k int) answer{"Necklaces": necklaces, "Bracelets": bracelets, "Lyndon": lyndon}
}

// callsThatList are the calls of n and k that answer lists.
func callsThatList() map[string]func(n, k int) answer {
	return map[string]func(n, k int) answer{"Words": words, "Bruijn": bruijn}
}

// callsOfWord are the calls that take a word.
func callsOfWord() map[string]func(w []int) answer {
	return map[string]func(w []int) answer{"Least": least, "Factor": factor}
}

// colourings yields all lists of n numbers from 0 to k - 1, rising.
func colourings(n, k int) iter.Seq[[]int] {
	return func(yield func(w []int) bool) {
		w := make([]int, n)
		for yield(slices.Clone(w)) {
			i := n - 1
			for ; i >= 0 && w[i] == k-1; i-- {
				w[i] = 0
			}
			if i < 0 {
				return
			}
			w[i]++
		}
	}
}

// shortWords yields all words of few numbers.
func shortWords() iter.Seq[[]int] {
	return func(yield func(w []int) bool) {
		for k, longest := range []int{0, 9, 10, 7, 6} {
			for n := 1; n <= longest; n++ {
				for w := range colourings(n, k) {
					if !yield(w) {
						return
					}
				}
			}
		}
	}
}

// sizes are all n and k with at most so many colourings.
func sizes(most int) [][2]int {
	var out [][2]int
	for n := 1; n <= 20; n++ {
		for k := 1; k <= 1000 && isUpTo(n, k, most); k++ {
			out = append(out, [2]int{n, k})
		}
	}
	return out
}

func isUpTo(n, k, most int) bool {
	left := most
	for range n {
		left /= k
	}
	return left > 0
}

// turned is w, turned by i.
func turned(w []int, i int) []int { return slices.Concat(w[i:], w[:i]) }

// leastTurn is the least i by which w, turned, is least.
func leastTurn(w []int) int {
	least := 0
	for i := range w {
		if slices.Compare(turned(w, i), turned(w, least)) < 0 {
			least = i
		}
	}
	return least
}

// isLyndon: is w less than all it is turned to?
func isLyndon(w []int) bool {
	for i := 1; i < len(w); i++ {
		if slices.Compare(w, turned(w, i)) >= 0 {
			return false
		}
	}
	return true
}

// chance tells numbers that look taken by chance, the same ones each time.
type chance struct{ state uint64 }

func (c *chance) below(n int) int {
	c.state = c.state*6364136223846793005 + 1442695040888963407
	return int(c.state >> 33 % uint64(n))
}

// word is a word of n numbers below k.
func (c *chance) word(n, k int) []int {
	w := make([]int, n)
	for i := range w {
		w[i] = c.below(k)
	}
	return w
}

// fibonacci is the word of up to n numbers that falls into most words.
func fibonacci(n, a, b int) []int {
	short, long := []int{a}, []int{a, b}
	for len(long) < n {
		short, long = long, slices.Concat(long, short)
	}
	return long[:n]
}

// longWords are of many numbers, up to as many as there may be.
func longWords() [][]int {
	var out [][]int
	by := &chance{state: 18}
	for _, n := range []int{11, 60, 97, 128, 360, 720, 1000, 1999, api.MaxWord} {
		for _, k := range []int{1, 2, 3, 10, 1001} {
			out = append(out, by.word(n, k))
		}
		rises := make([]int, n)
		for i := range rises {
			rises[i] = min(i, 1000)
		}
		sinks := slices.Clone(rises)
		slices.Reverse(sinks)
		out = append(out, rises, sinks, fibonacci(n, 0, 1), fibonacci(n, 1000, 999), slices.Repeat([]int{1000}, n))
		zeros := make([]int, n)
		zeros[n-1] = 1
		out = append(out, zeros, turned(zeros, n/2), turned(zeros, n-1), turned(zeros, 1))
		for _, size := range []int{2, 3, 5, 7, 10, 40} {
			part := by.word(size, 3)
			again := slices.Repeat(part, n/size)
			out = append(out, again, slices.Concat(again, part[:n%size]), turned(again, min(size/2, len(again))))
		}
	}
	return slices.DeleteFunc(out, func(w []int) bool { return len(w) == 0 })
}
