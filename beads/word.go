package beads

import "iter"

// lyndonWords yields all Lyndon words of up to n of the numbers 0 to k - 1,
// rising; a word that goes on where another one ends is the greater one. What is
// yielded is written over for the next one.
func lyndonWords(n, k int) iter.Seq[[]int] {
	return func(yield func(w []int) bool) {
		w := append(make([]int, 0, n), 0)
		for yield(w) {
			w = next(w, n, k)
			if len(w) == 0 {
				return
			}
		}
	}
}

// next is, in w's memory, the Lyndon word that comes behind the Lyndon word w,
// or no word (Duval): w, again and again, up to n numbers, without the greatest
// numbers at its end, and with the number ahead of them one greater.
func next(w []int, n, k int) []int {
	for i := 0; len(w) < n; i++ {
		w = append(w, w[i])
	}
	for len(w) > 0 && w[len(w)-1] == k-1 {
		w = w[:len(w)-1]
	}
	if len(w) > 0 {
		w[len(w)-1]++
	}
	return w
}

// falls yields where the words begin into which w falls, so that each is a
// Lyndon word and none is greater than the one ahead, and how long they are.
func falls(w []int) iter.Seq2[int, int] {
	return func(yield func(begin, length int) bool) {
		for begin := 0; begin < len(w); {
			length, times := first(w[begin:])
			for range times {
				if !yield(begin, length) {
					return
				}
				begin += length
			}
		}
	}
}

// first is how long the first word is into which w, which is not empty, falls,
// and how often it stands there (Duval). What is read is a Lyndon word again and
// again, and a beginning of it: a number that goes on so leaves it at that; a
// greater one makes all of it one Lyndon word; and ahead of a less one, the word
// is known.
func first(w []int) (length, times int) {
	length = 1
	read := 1
	for ; read < len(w) && w[read] >= w[read-length]; read++ {
		if w[read] > w[read-length] {
			length = read + 1
		}
	}
	return length, read / length
}
