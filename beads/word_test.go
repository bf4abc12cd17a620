package beads_test

import (
	"fmt"
	"slices"
	"testing"

	"cayley/api"
	"cayley/beads"
)

func TestWordsAgainstAllColourings(t *testing.T) {
	for _, size := range sizes(4096) {
		n, k := size[0], size[1]
		var want [][]int
		for w := range colourings(n, k) {
			if isLyndon(w) {
				want = append(want, w)
			}
		}
		same(t, fmt.Sprint("Words of ", size), words(n, k), answer{words: want})
	}
}

// TestWordsOfMany: as many as Lyndon says, each is a Lyndon word, and they rise.
func TestWordsOfMany(t *testing.T) {
	for _, size := range sizes(20000) {
		n, k := size[0], size[1]
		got := words(n, k)
		same(t, fmt.Sprint("how many Words of ", size), counted(fmt.Sprint(len(got.words))), lyndon(n, k))
		for i, w := range got.words {
			if len(w) != n || slices.Min(w) < 0 || slices.Max(w) >= k || !isLyndon(w) {
				t.Errorf("Words of %v: %v is no Lyndon word", size, w)
			}
			if i > 0 && slices.Compare(got.words[i-1], w) >= 0 {
				t.Errorf("Words of %v: %v is behind %v", size, w, got.words[i-1])
			}
		}
	}
}

// TestBruijnHasAllColourings: gone round, the list has each colouring just once.
func TestBruijnHasAllColourings(t *testing.T) {
	for _, size := range sizes(20000) {
		n, k := size[0], size[1]
		got := bruijn(n, k)
		all := 1
		for range n {
			all *= k
		}
		if got.f.Code != api.OK || len(got.list) != all {
			t.Errorf("Bruijn of %v: %v, %d numbers", size, got.f, len(got.list))
			continue
		}
		seen := make([]bool, all)
		round := slices.Concat(got.list, got.list)
		for len(round) < all+n { // it may have fewer numbers than a colouring
			round = append(round, got.list...)
		}
		for i := range all {
			number := 0
			for _, x := range round[i : i+n] {
				if x < 0 || x >= k {
					t.Fatalf("Bruijn of %v: %d at %d", size, x, i)
				}
				number = number*k + x
			}
			if seen[number] {
				t.Errorf("Bruijn of %v: what stands at %d stood there already", size, i)
			}
			seen[number] = true
		}
	}
}

// leastOfAll goes through all lists, rising, up to one in which each colouring
// stands once.
func leastOfAll(n, k int) []int {
	for list := range colourings(numberOf(n, k), k) {
		seen := map[string]bool{}
		for i := range list {
			seen[fmt.Sprint(slices.Repeat(turned(list, i), n)[:n])] = true
		}
		if len(seen) == len(list) {
			return list
		}
	}
	return nil
}

func numberOf(n, k int) int {
	all := 1
	for range n {
		all *= k
	}
	return all
}

func TestBruijnAgainstAllLists(t *testing.T) {
	for _, size := range [][2]int{{1, 1}, {2, 1}, {5, 1}, {20, 1}, {1, 2}, {2, 2}, {3, 2}, {4, 2}, {1, 3}, {2, 3}, {1, 4}, {1, 5}, {1, 6}} {
		same(t, fmt.Sprint("Bruijn of ", size), bruijn(size[0], size[1]), answer{list: leastOfAll(size[0], size[1])})
	}
}

// ways are the colourings of n numbers as ways from their first n - 1 numbers to
// their last: a list in which each colouring stands once goes each way once.
type ways struct {
	k, places int
	gone      []bool // a way is its place times k, and its last number
}

func (w *ways) end(way int) int { return way % w.places }

// isWhole: can all ways that are left be gone from the place on? So it is, if
// they hang together, as at each place as many begin as end, but for the place
// itself and the one where all began.
func (w *ways) isWhole(place int) bool {
	group := make([]int, w.places) // each place's leader, by which places hang together
	for i := range group {
		group[i] = i
	}
	leader := func(i int) int {
		for group[i] != i {
			group[i] = group[group[i]]
			i = group[i]
		}
		return i
	}
	for way, gone := range w.gone {
		if !gone {
			group[leader(way/w.k)] = leader(w.end(way))
		}
	}
	for way, gone := range w.gone {
		if !gone && leader(way/w.k) != leader(place) {
			return false
		}
	}
	return true
}

// leastByWays goes, from n - 1 zeros on, each time the least way behind which
// all that are left can still be gone.
func leastByWays(n, k int) []int {
	all := numberOf(n, k)
	w := &ways{k: k, places: all / k, gone: make([]bool, all)}
	list, place := make([]int, n-1), 0
	for range all {
		for x := range k {
			way := place*k + x
			if w.gone[way] {
				continue
			}
			w.gone[way] = true
			if w.isWhole(w.end(way)) {
				list, place = append(list, x), w.end(way)
				break
			}
			w.gone[way] = false
		}
	}
	// Its last n - 1 numbers are those that it began with.
	return list[:all]
}

func TestBruijnIsLeast(t *testing.T) {
	for _, size := range sizes(2200) {
		n, k := size[0], size[1]
		if n > 1 && k > 1 {
			same(t, fmt.Sprint("Bruijn of ", size), bruijn(n, k), answer{list: leastByWays(n, k)})
		}
	}
}

func TestBruijnOfOneNumber(t *testing.T) {
	for k := 1; k <= 1000; k++ {
		rises := make([]int, k)
		for i := range rises {
			rises[i] = i
		}
		same(t, fmt.Sprint("Bruijn of 1 and ", k), bruijn(1, k), answer{list: rises})
	}
	for n := 1; n <= 20; n++ {
		same(t, fmt.Sprint("Bruijn of ", n, " and 1"), bruijn(n, 1), answer{list: []int{0}})
	}
}

func TestLeast(t *testing.T) {
	for w := range shortWords() {
		same(t, fmt.Sprint("Least of ", w), least(w), answer{n: leastTurn(w)})
	}
	for i, w := range longWords() {
		same(t, fmt.Sprint("Least of long word ", i), least(w), answer{n: leastTurn(w)})
	}
}

// fallsAt: is it so that the words that begin there are Lyndon words, and none
// is greater than the one ahead?
func fallsAt(w, begins []int) bool {
	if len(begins) == 0 || begins[0] != 0 {
		return false
	}
	ends := append(slices.Clone(begins[1:]), len(w))
	var ahead []int
	for i, begin := range begins {
		if begin >= ends[i] || ends[i] > len(w) {
			return false
		}
		word := w[begin:ends[i]]
		if !isLyndon(word) || i > 0 && slices.Compare(ahead, word) < 0 {
			return false
		}
		ahead = word
	}
	return true
}

// TestJustOneWay goes through all sets of places at which words may begin.
func TestJustOneWay(t *testing.T) {
	for w := range shortWords() {
		if len(w) > 7 {
			continue
		}
		var found [][]int
		for set := range 1 << (len(w) - 1) {
			begins := []int{0}
			for i := 1; i < len(w); i++ {
				if set>>(i-1)&1 == 1 {
					begins = append(begins, i)
				}
			}
			if fallsAt(w, begins) {
				found = append(found, begins)
			}
		}
		same(t, fmt.Sprint("all ways of ", w), found, [][]int{factor(w).list})
	}
}

func TestFactor(t *testing.T) {
	for w := range shortWords() {
		got := factor(w)
		if got.f.Code != api.OK || !fallsAt(w, got.list) {
			t.Errorf("Factor of %v: %v", w, got)
		}
	}
	for i, w := range longWords() {
		got := factor(w)
		if got.f.Code != api.OK || !fallsAt(w, got.list) {
			t.Errorf("Factor of long word %d: %v", i, got)
		}
	}
}

func TestExamplesOfWords(t *testing.T) {
	same(t, "Bruijn of 3 and 2", bruijn(3, 2), answer{list: []int{0, 0, 0, 1, 0, 1, 1, 1}})
	same(t, "Words of 4 and 2", words(4, 2), answer{words: [][]int{{0, 0, 0, 1}, {0, 0, 1, 1}, {0, 1, 1, 1}}})
	same(t, "Words of 1 and 3", words(1, 3), answer{words: [][]int{{0}, {1}, {2}}})
	same(t, "Words of 20 and 1", words(20, 1), answer{})
	same(t, "Least of 2 1 0 2 0 1", least([]int{2, 1, 0, 2, 0, 1}), answer{n: 4})
	same(t, "Least of 1 0 1 0", least([]int{1, 0, 1, 0}), answer{n: 1})
	same(t, "Least of 1000", least([]int{1000}), answer{})
	same(t, "Factor of 1 0 1 0 0", factor([]int{1, 0, 1, 0, 0}), answer{list: []int{0, 1, 3, 4}})
	same(t, "Factor of 1000 999 1000", factor([]int{1000, 999, 1000}), answer{list: []int{0, 1}})
	same(t, "Factor of 0 1 0 1 0", factor([]int{0, 1, 0, 1, 0}), answer{list: []int{0, 2, 4}})
}

// TestWordsAreOnlyRead: nor is what lies behind a word's length read or written.
func TestWordsAreOnlyRead(t *testing.T) {
	for name, call := range callsOfWord() {
		for i, w := range append(longWords(), []int{1}, []int{1, 0}, []int{0, 1, 0}) {
			want := call(w)
			for _, behind := range []int{-5, 0, 7000} {
				memory := append(slices.Clone(w), slices.Repeat([]int{behind}, 2*len(w)+3)...)
				before := slices.Clone(memory)
				same(t, fmt.Sprint(name, " of word ", i, " with ", behind, " behind"), call(memory[:len(w)]), want)
				if !slices.Equal(memory, before) {
					t.Errorf("%s of word %d: written over", name, i)
				}
			}
		}
	}
}

func spoil(list []int) {
	list = list[:cap(list)]
	for i := range list {
		list[i] = -9
	}
}

// TestAnswersAreNew: what is written into an answer is seen nowhere else.
func TestAnswersAreNew(t *testing.T) {
	for name, call := range callsThatList() {
		for _, size := range [][2]int{{1, 3}, {4, 2}, {6, 3}, {20, 1}, {2, 141}} {
			got, again := call(size[0], size[1]), call(size[0], size[1])
			want := fmt.Sprint(again)
			spoil(got.list)
			for _, w := range got.words {
				spoil(w)
			}
			same(t, fmt.Sprint(name, " of ", size, ", as it stands"), again, want)
			same(t, fmt.Sprint(name, " of ", size, ", asked again"), call(size[0], size[1]), want)
		}
	}
	w := []int{1, 0, 1, 0, 0}
	begins, _ := beads.Factor(w)
	spoil(begins)
	same(t, "the word", w, []int{1, 0, 1, 0, 0})
	same(t, "Factor, asked again", factor(w), answer{list: []int{0, 1, 3, 4}})
}

func TestListsShareNothing(t *testing.T) {
	for _, size := range [][2]int{{1, 5}, {4, 2}, {5, 3}, {10, 2}} {
		got, _ := beads.Words(size[0], size[1])
		want := words(size[0], size[1]).words
		for i := range got {
			spoil(got[i])
			for k := i + 1; k < len(got); k++ {
				if !slices.Equal(got[k], want[k]) {
					t.Fatalf("Words of %v: %d and %d share memory", size, i, k)
				}
			}
		}
	}
}

// TestSameAnswersAgain: what was asked ahead does not change what is answered.
func TestSameAnswersAgain(t *testing.T) {
	ask := func() string {
		return fmt.Sprint(necklaces(60, 7), bracelets(60, 7), lyndon(60, 7), words(6, 3), bruijn(6, 3), least(fibonacci(500, 1, 0)), factor(fibonacci(500, 1, 0)))
	}
	want := ask()
	for range 3 {
		words(0, 0)
		bruijn(14, 2)
		least(nil)
		factor(make([]int, api.MaxWord))
		same(t, "asked again", ask(), want)
	}
}
