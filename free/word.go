package free

import "slices"

// one is the text of the word without letters.
const one = "1"

// product is that of words, one behind the other, reduced.
func product(words ...[]int) []int {
	var out []int
	for _, w := range words {
		for _, x := range w {
			if last := len(out) - 1; last >= 0 && out[last] == -x {
				out = out[:last]
			} else {
				out = append(out, x)
			}
		}
	}
	return out
}

// inverse has w's letters, the last one first, each as its opposite.
func inverse(w []int) []int {
	out := make([]int, len(w))
	for i, x := range w {
		out[len(w)-1-i] = -x
	}
	return out
}

// coreOf is what a reduced word has between opposite letters at its ends, and
// those that stand ahead of it: pieces of the word.
func coreOf(reduced []int) (core, ahead []int) {
	n, end := 0, len(reduced)
	// In a reduced word two opposite letters never meet, so that a core is left
	// of each but the one.
	for n < end && reduced[n] == -reduced[end-1] {
		n, end = n+1, end-1
	}
	return reduced[n:end], reduced[:n]
}

// turn is the least n for which the word from, turned so that its first n
// letters come last, is the word to, if there is such a number.
func turn(from, to []int) (int, bool) {
	if len(from) != len(to) {
		return 0, false
	}
	twice := slices.Concat(from, from)
	for n := range len(from) + 1 {
		if slices.Equal(twice[n:n+len(to)], to) {
			return n, true
		}
	}
	return 0, false
}

// period is the length of the shortest word of which w is a power; w has letters.
func period(w []int) int {
	for n := 1; n < len(w); n++ {
		if len(w)%n == 0 && slices.Equal(w[n:], w[:len(w)-n]) {
			return n
		}
	}
	return len(w)
}

// byteOf is a letter's byte.
func byteOf(x int) byte {
	if x > 0 {
		return byte('a' + x - 1)
	}
	return byte('A' - x - 1)
}

// letterOf is the letter that a byte stands for, if it stands for one.
func letterOf(b byte) (int, bool) {
	switch {
	case 'a' <= b && b <= 'z':
		return int(b-'a') + 1, true
	case 'A' <= b && b <= 'Z':
		return -int(b-'A') - 1, true
	}
	return 0, false
}
