package fold_test

import (
	"fmt"
	"maps"
	"slices"
	"testing"

	"cayley/api"
	"cayley/fold"
)

func TestExamples(t *testing.T) {
	l := [][]int{{1, 1}, {2}, {1, 2, -1}}
	same(t, "Rank", rank(l), answer{n: 3})
	same(t, "Index", index(l, 2), answer{n: 2})
}

func TestKnownAnswers(t *testing.T) {
	one := [][]int{{1, -1}, {}, {2, 3, -3, -2}}
	for _, l := range [][][]int{nil, {}, {nil}, {{}, {}}, one} {
		same(t, "Basis of the one alone", basis(l), answer{})
		same(t, "Rank of the one alone", rank(l), answer{})
		same(t, "Index of the one alone", index(l, 1), answer{})
		same(t, "the one in the one alone", member(l, nil), answer{is: true})
		same(t, "the one, not reduced, in the one alone", member(l, []int{4, -4}), answer{is: true})
		same(t, "a in the one alone", member(l, []int{1}), answer{})
		same(t, "the one alone twice", equal(l, one), answer{is: true})
		same(t, "the one alone and a", equal(l, [][]int{{1}}), answer{})
		same(t, "Meet of the one alone and a", meet(l, [][]int{{1}}), answer{})
	}
	same(t, "Index of a in a", index([][]int{{1}}, 1), answer{n: 1})
	same(t, "Index of A a a in a", index([][]int{{-1, 1, 1}}, 1), answer{n: 1})
	same(t, "Index of a a a in a", index([][]int{{1, 1, 1}}, 1), answer{n: 3})
	same(t, "Index of powers in a", index([][]int{power([]int{1}, 12), power([]int{-1}, 18)}, 1), answer{n: 6})
	same(t, "Index of a in a and b", index([][]int{{1}}, 2), answer{})
	same(t, "Index of a, b b and b a B", index([][]int{{1}, {2, 2}, {2, 1, -2}}, 2), answer{n: 2})
	same(t, "Index without one of them", index([][]int{{2, 2}, {2, 1, -2}}, 2), answer{})
	same(t, "Rank of a, b and a b", rank([][]int{{1}, {2}, {1, 2}}), answer{n: 2})
	same(t, "Rank of a word twice", rank([][]int{{1, 2}, {-2, -1}}), answer{n: 1})
	same(t, "Rank of z", rank([][]int{{26}}), answer{n: 1})
	same(t, "Same of conjugates", equal([][]int{{1, 2, -1}}, [][]int{{2}}), answer{})
	same(t, "Same of a b, b and a, B", equal([][]int{{1, 2}, {2}}, [][]int{{1}, {-2}}), answer{is: true})
	same(t, "Same by other letters", equal([][]int{{1}}, [][]int{{2}}), answer{})
	same(t, "Same of a part", equal([][]int{{1}}, [][]int{{1}, {2}}), answer{})
	same(t, "a word that is not reduced", member([][]int{{1, 1}}, []int{3, -3, 1, 2, -2, 1}), answer{is: true})
	same(t, "a word that leads elsewhere", member([][]int{{1, 1}}, []int{1}), answer{})
	same(t, "Meet of conjugates", meet([][]int{{1, 2, -1}}, [][]int{{2}}), answer{})
}

// TestLettersUpToTheLast: each letter is one of its own.
func TestLettersUpToTheLast(t *testing.T) {
	for x := 1; x <= 26; x++ {
		for y := -26; y <= 26; y++ {
			if y != 0 {
				same(t, fmt.Sprint(y, " in what ", x, " makes"), member([][]int{{x}}, []int{y}), answer{is: y == x || y == -x})
			}
		}
	}
	all := words(26, 1)[27:47]
	same(t, "twenty letters", rank(all), answer{n: 20})
	same(t, "twenty letters in themselves", index(all, 20), answer{n: 1})
	same(t, "twenty letters in one more", index(all, 21), answer{})
	same(t, "twenty letters in all", index(all, 26), answer{})
	same(t, "nineteen letters in twenty", index(all[:19], 20), answer{})
}

// TestByTheWords holds the calls of one list against all products of few letters.
func TestByTheWords(t *testing.T) {
	all := reducedWords(2, 4)
	for _, l := range lists(2, 4) {
		want := things(l, 6)
		for _, w := range all {
			is, f := fold.Member(l, w)
			if is != want[key(w)] || f != (api.Fault{}) {
				t.Errorf("Member of %v with %v: %v, %v", l, w, is, f)
			}
		}
		aBasis(t, fmt.Sprint("Basis of ", l), l, basis(l))
		if b := basis(l).words; !maps.Equal(things(b, 6), want) {
			t.Errorf("Basis of %v makes something else: %v", l, b)
		}
	}
}

// aBasis holds an answer against what the chapter says of a basis of l, and of
// its words and letters.
func aBasis(t *testing.T, what string, l [][]int, got answer) {
	t.Helper()
	same(t, what+": fault", got.f, api.Fault{})
	same(t, what+": Check", fold.Check(got.words), api.Fault{})
	same(t, what+": Rank", rank(l), answer{n: len(got.words)})
	same(t, what+": Same", equal(l, got.words), answer{is: true})
	least := 0
	for i, w := range got.words {
		least += len(shortened(w))
		others := slices.Delete(slices.Clone(got.words), i, i+1)
		same(t, what+": a product of the others", member(others, w), answer{})
	}
	same(t, what+": letters of reduced words", letters(got.words), least)
	for _, w := range l {
		same(t, what+": a word of l", member(got.words, w), answer{is: true})
	}
}

// TestEachThingIsOneProduct: no two reduced products of a basis are the same word.
func TestEachThingIsOneProduct(t *testing.T) {
	for seed := range 40 {
		c := newChance(seed)
		b := basis(c.list(1+seed%3, 6, 2)).words
		seen := map[string]bool{fmt.Sprint([]int{}): true}
		for _, product := range products(b, 4) {
			w := fmt.Sprint(spelt(b, product))
			if seen[w] {
				t.Errorf("in two ways a product of %v: %s", b, w)
			}
			seen[w] = true
		}
	}
}

// TestTwoByTheWords holds the calls of two lists against all products of few
// letters, for each subgroup that few letters make.
func TestTwoByTheWords(t *testing.T) {
	first := map[string][][]int{}
	for _, l := range lists(2, 3) {
		of := fmt.Sprint(things(l, 6))
		if _, known := first[of]; !known {
			first[of] = l
		}
		same(t, fmt.Sprint("Same of ", l, " and ", first[of]), equal(l, first[of]), answer{is: true})
	}
	for _, l := range first {
		ofL := things(l, 6)
		for _, m := range first {
			ofM := things(m, 6)
			what := fmt.Sprint(" of ", l, " and ", m)
			same(t, "Same"+what, equal(l, m), answer{is: maps.Equal(ofL, ofM)})
			got := meet(l, m)
			aBasis(t, "Meet"+what, got.words, got)
			inM := maps.Clone(ofL)
			maps.DeleteFunc(inM, func(k string, _ bool) bool { return !ofM[k] })
			if !maps.Equal(things(got.words, 6), inM) {
				t.Errorf("Meet%s makes something else: %v", what, got.words)
			}
		}
	}
}

// TestPointsThatAreMoved: what moves no point has as many cosets as points are
// moved, and is asked by moving it. This is Nielsen's and Schreier's theorem, too.
func TestPointsThatAreMoved(t *testing.T) {
	for _, p := range allMoves(4) {
		moved(t, p, reducedWords(2, 4))
	}
	for seed := range 60 {
		c := newChance(seed)
		n := 2 + seed%4
		p := c.moves(1+c.below(19/(n-1)), n)
		var some [][]int
		for range 60 {
			some = append(some, c.word(c.below(200), n))
		}
		moved(t, p, some)
	}
}

func moved(t *testing.T, p moves, some [][]int) {
	t.Helper()
	l, n, letters := p.keep(), len(p[0]), len(p)
	what := fmt.Sprint(p)
	same(t, "Index of "+what, index(l, letters), answer{n: n})
	same(t, "Index in one more letter of "+what, index(l, letters+1), answer{})
	same(t, "Rank of "+what, rank(l), answer{n: n*(letters-1) + 1})
	aBasis(t, "Basis of "+what, l, basis(l))
	for _, w := range some {
		same(t, fmt.Sprint("Member of ", what, " with ", w), member(l, w), answer{is: p.to(0, w) == 0})
	}
	same(t, "Index with one word less of "+what, index(l[1:], letters), answer{})
	same(t, "Rank with one word less of "+what, rank(l[1:]), answer{n: len(l) - 1})
}

// TestPairsThatAreMoved: what moves neither of two points moves no pair.
func TestPairsThatAreMoved(t *testing.T) {
	all := allMoves(3)
	for _, p := range all {
		for _, q := range all {
			meets(t, p, q)
		}
	}
	for seed := range 40 {
		c := newChance(seed)
		meets(t, c.moves(2+seed%4, 2), c.moves(2+seed%3, 2))
		meets(t, c.moves(1+seed%3, 3), c.moves(1+seed%2, 3))
	}
}

func meets(t *testing.T, p, q moves) {
	t.Helper()
	what := fmt.Sprint(" of ", p, " and ", q)
	l, m, both := p.keep(), q.keep(), pairs(p, q)
	got := meet(l, m)
	if len(both[0])*(len(both)-1)+1 > 20 {
		same(t, "Meet, too large,"+what, got, refused(fault(api.ErrMuch, 0)))
		return
	}
	same(t, "Meet's fault"+what, got.f, api.Fault{})
	same(t, "Meet"+what, equal(got.words, both.keep()), answer{is: true})
	same(t, "Meet's Index"+what, index(got.words, len(p)), answer{n: len(both[0])})
	aBasis(t, "Meet"+what, both.keep(), got)
	same(t, "Same"+what, equal(l, m), answer{is: len(both[0]) == len(p[0]) && len(p[0]) == len(q[0])})
}

// TestNielsenAndSchreier: Rank less 1 is Index times n less 1, where Index is not 0.
func TestNielsenAndSchreier(t *testing.T) {
	found := 0
	for _, l := range lists(2, 5) {
		for n := 2; n <= 3; n++ {
			if i := index(l, n).n; i != 0 {
				found++
				same(t, fmt.Sprint("Rank of ", l), rank(l), answer{n: i*(n-1) + 1})
			}
		}
	}
	if found < 100 {
		t.Errorf("only %d lists have an Index", found)
	}
}

// TestHowson: Rank of Meet less 1 is at most the product of both Ranks less 1,
// where none is 0.
func TestHowson(t *testing.T) {
	found := 0
	for seed := range 3000 {
		c := newChance(seed)
		l, m := c.list(1+c.below(6), 4, 2), c.list(1+c.below(6), 4, 2)
		got := meet(l, m)
		if got.f != (api.Fault{}) {
			same(t, "Meet's fault", got, refused(fault(api.ErrMuch, 0)))
			continue
		}
		aBasis(t, fmt.Sprint("Meet of ", l, " and ", m), got.words, got)
		for _, w := range got.words {
			same(t, "in l", member(l, w), answer{is: true})
			same(t, "in m", member(m, w), answer{is: true})
		}
		a, b, both := rank(l).n, rank(m).n, len(got.words)
		if a == 0 || b == 0 || both == 0 {
			continue
		}
		if both > 1 {
			found++
		}
		if both-1 > (a-1)*(b-1) {
			t.Errorf("Meet of %v and %v: Rank %d of %d and %d", l, m, both, a, b)
		}
	}
	if found < 300 {
		t.Errorf("only %d have more than one word", found)
	}
}

// TestMeetOfParts: what is in both is the lesser one, if it is a part of the
// other, and is the same, whichever is named first.
func TestMeetOfParts(t *testing.T) {
	for seed := range 300 {
		c := newChance(seed)
		l, m := c.list(c.below(10), 12, 3), c.list(c.below(10), 12, 3)
		more := slices.Concat(m, l)
		same(t, "Meet with more", equal(meet(l, more).words, l), answer{is: true})
		same(t, "Meet of more", equal(meet(more, l).words, l), answer{is: true})
		there, other := meet(l, m), meet(m, l)
		same(t, "Meet's fault", there.f, other.f)
		same(t, "Meet the other way", equal(there.words, other.words), answer{is: true})
	}
}
