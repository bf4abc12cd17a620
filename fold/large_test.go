package fold_test

import (
	"fmt"
	"slices"
	"testing"

	"cayley/api"
	"cayley/fold"
)

// TestBasisHasNoMoreLetters than l's words have, reduced.
func TestBasisHasNoMoreLetters(t *testing.T) {
	for seed := range 400 {
		c := newChance(seed)
		l := c.list(1+c.below(20), 100, 1+c.below(3))
		most := 0
		for _, w := range l {
			most += len(shortened(w))
		}
		got := basis(l)
		aBasis(t, fmt.Sprint("Basis of list ", seed), l, got)
		if letters(got.words) > most {
			t.Errorf("Basis of list %d: %d letters, more than %d", seed, letters(got.words), most)
		}
	}
}

// TestBasisOfFarWords: words far along a ring, whose letters are few by the way
// back, and too many by the way on.
func TestBasisOfFarWords(t *testing.T) {
	l := [][]int{power([]int{1}, 1000)}
	for i := range 19 {
		l = append(l, slices.Concat(power([]int{-1}, i+1), []int{2}, power([]int{1}, 40-i)))
	}
	same(t, "Check", fold.Check(l), api.Fault{})
	aBasis(t, "Basis", l, basis(l))
	same(t, "Rank", rank(l), answer{n: 20})
	same(t, "Index", index(l, 2), answer{})
}

// TestFullLists: of as many letters, and words, as there may be.
func TestFullLists(t *testing.T) {
	one := [][]int{power([]int{1}, api.MaxWord)}
	same(t, "Rank of one word", rank(one), answer{n: 1})
	same(t, "Index of one word", index(one, 1), answer{n: api.MaxWord})
	same(t, "Basis of one word", len(basis(one).words[0]), api.MaxWord)
	same(t, "Member of one word", member(one, back(one[0])), answer{is: true})
	same(t, "no Member of one word", member(one, one[0][1:]), answer{})
	same(t, "Meet with itself", equal(meet(one, one).words, one), answer{is: true})
	two := [][]int{power([]int{1}, 1001), power([]int{1}, 999)}
	same(t, "Index of two words", index(two, 1), answer{n: 1})
	nest := [][]int{slices.Concat(power([]int{5, 6}, 500), power([]int{-6, -5}, 500))}
	same(t, "Rank of what is the one", rank(nest), answer{})
	for seed := range 30 {
		c := newChance(seed)
		l := make([][]int, 20)
		for i := range l {
			l[i] = c.word(100, 1+seed%26)
		}
		aBasis(t, "Basis of a full list", l, basis(l))
		same(t, "what Meet with itself is", equal(meet(l, l).words, l), answer{is: true})
		var w []int
		for range 20 {
			w = append(w, spelt(l, []int{1 + c.below(20)})...)
		}
		same(t, "Member of a full list", member(l, w), answer{is: true})
		if seed%26 > 3 { // of so many letters, this is far from all
			same(t, "no Member of a full list", member(l, append(w[:len(w)-1:len(w)-1], 26)), answer{})
		}
	}
}

// TestMeetOfPowers: what is in both is made by the power by the least number
// that both go into; ErrMuch, where this has too many letters.
func TestMeetOfPowers(t *testing.T) {
	for a := 1; a <= 60; a++ {
		for b := 1; b <= 60; b++ {
			least := a
			for least%b != 0 {
				least += a
			}
			got := meet([][]int{power([]int{1}, a)}, [][]int{power([]int{-1}, b)})
			if least > api.MaxWord {
				same(t, fmt.Sprint("Meet of ", a, " and ", b), got, refused(fault(api.ErrMuch, 0)))
				continue
			}
			want := power([]int{1}, least)
			if len(got.words) == 1 && len(got.words[0]) > 0 && got.words[0][0] < 0 {
				want = back(want)
			}
			same(t, fmt.Sprint("Meet of ", a, " and ", b), got, answer{words: [][]int{want}})
		}
	}
}

// TestMeetAtTheLimit: of just as many letters and words as Check has nothing to
// say of, and of more.
func TestMeetAtTheLimit(t *testing.T) {
	a := func(n int) [][]int { return [][]int{power([]int{1}, n)} }
	same(t, "letters of Meet", letters(meet(a(16), a(125)).words), api.MaxWord)
	same(t, "a letter more", meet(a(3*23), a(29)), refused(fault(api.ErrMuch, 0)))
	same(t, "far more letters", meet(a(api.MaxWord), a(api.MaxWord-1)), refused(fault(api.ErrMuch, 0)))
	around := func(n, m int) [][]int {
		w := slices.Concat(power([]int{2}, n), power([]int{1}, m), power([]int{-2}, n))
		return [][]int{w}
	}
	same(t, "letters around", letters(meet(around(200, 40), around(200, 1)).words), 440)
	same(t, "letters around, to the limit", letters(meet(around(10, 20), around(10, 99)).words), api.MaxWord)
	same(t, "letters around, beyond it", meet(around(11, 20), around(11, 99)), refused(fault(api.ErrMuch, 0)))
	whole := [][]int{{1}, {2}}
	c := newChance(7)
	p := c.moves(19, 2)
	got := meet(whole, p.keep())
	same(t, "words of Meet", len(got.words), 20)
	aBasis(t, "Meet with all", p.keep(), got)
	for seed := range 10 {
		c := newChance(seed)
		meets(t, c.moves(4, 2), c.moves(5, 2))
	}
}

// TestMeetOfFewLetters: of up to 12 letters together ErrMuch is never told.
func TestMeetOfFewLetters(t *testing.T) {
	for seed := range 20000 {
		c := newChance(seed)
		l, m := few(c, 6), few(c, 6)
		got := meet(l, m)
		same(t, fmt.Sprint("Meet's fault of ", l, " and ", m), got.f, api.Fault{})
		same(t, fmt.Sprint("Check of Meet of ", l, " and ", m), fold.Check(got.words), api.Fault{})
	}
	single := words(26, 1)[27:33]
	same(t, "letters alone", len(meet(single, single).words), 6)
	for n := 1; n < 12; n++ {
		long := [][]int{power([]int{1}, n)}
		same(t, "one long word", meet(long, [][]int{power([]int{-1}, 12-n)}).f, api.Fault{})
	}
}

// few is a list of words that have so many letters together.
func few(c *chance, n int) [][]int {
	var l [][]int
	for n > 0 {
		most := 1 + c.below(n)
		l = append(l, c.word(most, 2))
		n -= most
	}
	return l
}
