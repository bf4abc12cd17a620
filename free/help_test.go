package free_test

import (
	"fmt"
	"slices"
	"testing"

	"cayley/api"
	"cayley/free"
)

func fault(code, at int) api.Fault { return api.Fault{Code: code, At: at} }

// same holds two answers against each other; an empty list is a nil list.
func same(t *testing.T, what string, got, want any) {
	t.Helper()
	if fmt.Sprint(got) != fmt.Sprint(want) {
		t.Errorf("%s: %v, want %v", what, got, want)
	}
}

// answer is what a call answers; what it does not answer is empty.
type answer struct {
	word  []int
	ahead []int
	n     int
	is    bool
	text  string
	f     api.Fault
}

// refused is the answer that has this fault, and nothing beside it.
func refused(f api.Fault) answer { return answer{f: f} }

func worded(w []int, f api.Fault) answer { return answer{word: w, f: f} }

func reduce(w []int) answer    { return worded(free.Reduce(w)) }
func mul(v, w []int) answer    { return worded(free.Mul(v, w)) }
func inv(w []int) answer       { return worded(free.Inv(w)) }
func conj(v, w []int) answer   { return worded(free.Conj(v, w)) }
func parse(text string) answer { return worded(free.Parse(text)) }

func core(w []int) answer {
	c, a, f := free.Core(w)
	return answer{word: c, ahead: a, f: f}
}

func root(w []int) answer {
	r, n, f := free.Root(w)
	return answer{word: r, n: n, f: f}
}

func commute(v, w []int) answer {
	is, f := free.Commute(v, w)
	return answer{is: is, f: f}
}

func text(w []int) answer {
	s, f := free.Text(w)
	return answer{text: s, f: f}
}

// callsOfOne are those that take one word.
func callsOfOne() map[string]func(w []int) answer {
	return map[string]func(w []int) answer{
		"Check":  func(w []int) answer { return answer{f: free.Check(w)} },
		"Reduce": reduce,
		"Inv":    inv,
		"Core":   core,
		"Root":   root,
		"Text":   text,
	}
}

// callsOfTwo are those that take two words.
func callsOfTwo() map[string]func(v, w []int) answer {
	return map[string]func(v, w []int) answer{"Mul": mul, "Conj": conj, "Commute": commute}
}

// words are all of up to most letters among 1 to n and their opposites, short ones first.
func words(n, most int) [][]int {
	out := [][]int{{}}
	for at := 0; at < len(out) && len(out[at]) < most; at++ {
		for x := -n; x <= n; x++ {
			if x != 0 {
				out = append(out, append(slices.Clone(out[at]), x))
			}
		}
	}
	return out
}

// reducedWords are those of words that are reduced.
func reducedWords(n, most int) [][]int {
	return slices.DeleteFunc(words(n, most), func(w []int) bool { return pair(w) >= 0 })
}

// pair is where two opposite letters stand next to each other, first; -1: nowhere.
func pair(w []int) int {
	for i := 1; i < len(w); i++ {
		if w[i-1] == -w[i] {
			return i - 1
		}
	}
	return -1
}

// shortened takes pairs away, one by one, as the chapter says.
func shortened(parts ...[]int) []int {
	w := slices.Concat(parts...)
	for at := pair(w); at >= 0; at = pair(w) {
		w = slices.Delete(w, at, at+2)
	}
	return w
}

// back is w's inverse.
func back(w []int) []int {
	var out []int
	for _, x := range w {
		out = append([]int{-x}, out...)
	}
	return out
}

// power is a word, n times.
func power(w []int, n int) []int { return slices.Repeat(w, n) }

// coreByWords goes through all ways to write w, reduced, as the chapter says,
// and takes that with the shortest c.
func coreByWords(w []int) answer {
	w = shortened(w)
	best := answer{word: w}
	for n := 0; 2*n <= len(w); n++ {
		a, c := w[:n], w[n:len(w)-n]
		if slices.Equal(slices.Concat(a, c, back(a)), w) && len(c) < len(best.word) {
			best = answer{word: c, ahead: a}
		}
	}
	return best
}

// rootByWords tries all reduced words that are no longer than w, reduced: of
// what is the one's power there is none, and no power is shorter than its word.
func rootByWords(w []int, all [][]int) answer {
	w = shortened(w)
	best := answer{}
	for _, r := range all {
		for n := best.n + 1; n <= len(w) && len(r) <= len(w); n++ {
			if slices.Equal(shortened(power(r, n)), w) {
				best = answer{word: r, n: n}
			}
		}
	}
	if best.n == 0 {
		return refused(fault(api.ErrNone, 0))
	}
	return best
}

// turnedTo: is d what c is when some of its first letters come last?
func turnedTo(c, d []int) bool {
	for n := range len(c) + 1 {
		if slices.Equal(slices.Concat(c[n:], c[:n]), d) {
			return true
		}
	}
	return false
}

// strewn is a word of n letters without order, always the same one.
func strewn(n, letters, seed int) []int {
	w := make([]int, n)
	state := uint64(seed)*2862933555777941757 + 3037000493
	for i := range w {
		state = state*6364136223846793005 + 1442695040888963407
		x := int(state>>33) % (2 * letters)
		if x < letters {
			w[i] = x + 1
		} else {
			w[i] = letters - x - 1
		}
	}
	return w
}
