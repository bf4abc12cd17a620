package free_test

import (
	"fmt"
	"slices"
	"strings"
	"testing"

	"cayley/api"
	"cayley/free"
)

func TestExamples(t *testing.T) {
	same(t, "Core of a b A", core([]int{1, 2, -1}), answer{word: []int{2}, ahead: []int{1}})
	same(t, "Root of a b a b", root([]int{1, 2, 1, 2}), answer{word: []int{1, 2}, n: 2})
}

func TestKnownAnswers(t *testing.T) {
	same(t, "Reduce of nothing", reduce(nil), answer{})
	same(t, "Reduce of pairs in pairs", reduce([]int{3, 1, 2, -2, -1, 3, 26, -26}), answer{word: []int{3, 3}})
	same(t, "Mul", mul([]int{1, 2, -3}, []int{3, -2, 5}), answer{word: []int{1, 5}})
	same(t, "Mul of words that are not reduced", mul([]int{1, -1}, []int{2, 3, -3}), answer{word: []int{2}})
	same(t, "Inv", inv([]int{1, 2, -3}), answer{word: []int{3, -2, -1}})
	same(t, "Inv of a word that is not reduced", inv([]int{1, 2, -2}), answer{word: []int{-1}})
	same(t, "Core of the one", core([]int{4, -4}), answer{})
	same(t, "Core of a word that is one", core([]int{1, 2, 1}), answer{word: []int{1, 2, 1}})
	same(t, "Core of a word that is not reduced", core([]int{5, -5, 1, 2, 3, -2, -1}), answer{word: []int{3}, ahead: []int{1, 2}})
	same(t, "Root of a letter", root([]int{-26}), answer{word: []int{-26}, n: 1})
	same(t, "Root of A A A", root([]int{-1, -1, -1}), answer{word: []int{-1}, n: 3})
	same(t, "Root of a conjugated power", root([]int{3, 1, 2, 1, 2, -3}), answer{word: []int{3, 1, 2, -3}, n: 2})
	same(t, "Root of a word that is none", root([]int{1, 2, 1}), answer{word: []int{1, 2, 1}, n: 1})
	same(t, "Root of the one", root([]int{1, -1}), refused(fault(api.ErrNone, 0)))
	same(t, "Root of nothing", root(nil), refused(fault(api.ErrNone, 0)))
	same(t, "Conj of a and A", conj([]int{1}, []int{-1}), refused(fault(api.ErrNone, 0)))
	same(t, "Conj of a and the one", conj([]int{1}, nil), refused(fault(api.ErrNone, 0)))
	same(t, "Conj of the one and a", conj([]int{2, -2}, []int{1}), refused(fault(api.ErrNone, 0)))
	same(t, "Conj of a and a a", conj([]int{1}, []int{1, 1}), refused(fault(api.ErrNone, 0)))
	same(t, "Commute of a and b", commute([]int{1}, []int{2}), answer{})
	same(t, "Commute of a and A A", commute([]int{1}, []int{-1, -1}), answer{is: true})
	same(t, "Commute with the one", commute([]int{1, 2}, []int{3, -3}), answer{is: true})
	same(t, "Text of nothing", text(nil), answer{text: "1"})
	same(t, "Text of a pair", text([]int{1, -1}), answer{text: "aA"})
	same(t, "Text", text([]int{1, 26, -1, -26, 13, -14}), answer{text: "azAZmN"})
	same(t, "Parse of 1", parse("1"), answer{})
	same(t, "Parse of a pair", parse("aA"), answer{word: []int{1, -1}})
	same(t, "Parse", parse("azAZmN"), answer{word: []int{1, 26, -1, -26, 13, -14}})
}

// TestByTheWords holds all calls of one word against the chapter's words.
func TestByTheWords(t *testing.T) {
	for _, c := range []struct{ n, most int }{{1, 7}, {2, 5}, {3, 3}} {
		all := reducedWords(c.n, c.most)
		for _, w := range words(c.n, c.most) {
			what := fmt.Sprint(" of ", w)
			same(t, "Check"+what, free.Check(w), api.Fault{})
			same(t, "Reduce"+what, reduce(w), answer{word: shortened(w)})
			same(t, "Inv"+what, inv(w), answer{word: shortened(back(w))})
			same(t, "Core"+what, core(w), coreByWords(w))
			same(t, "Root"+what, root(w), rootByWords(w, all))
		}
	}
}

// TestTwoByTheWords holds all calls of two words against the chapter's words.
func TestTwoByTheWords(t *testing.T) {
	all := words(2, 3)
	for _, v := range all {
		for _, w := range all {
			what := fmt.Sprint(" of ", v, " and ", w)
			same(t, "Mul"+what, mul(v, w), answer{word: shortened(v, w)})
			is := slices.Equal(shortened(v, w), shortened(w, v))
			same(t, "Commute"+what, commute(v, w), answer{is: is})
			conjugates(t, v, w, conj(v, w))
		}
	}
}

// conjugates holds an answer of Conj against the chapter's words: it is reduced,
// and does what it should; there is none just where none of few letters does.
func conjugates(t *testing.T, v, w []int, got answer) {
	t.Helper()
	what := fmt.Sprint("Conj of ", v, " and ", w)
	if got.f == (api.Fault{}) {
		same(t, what+": reduced", got.word, shortened(got.word))
		same(t, what, shortened(back(got.word), v, got.word), shortened(w))
		return
	}
	same(t, what, got, refused(fault(api.ErrNone, 0)))
	for _, x := range reducedWords(2, 3) {
		if slices.Equal(shortened(back(x), v, x), shortened(w)) {
			t.Errorf("%s: none, but there is %v", what, x)
		}
	}
}

// TestPowersCommute: two words commute just where both are powers of one.
func TestPowersCommute(t *testing.T) {
	all := reducedWords(2, 4)
	for _, v := range all {
		for _, w := range all {
			is := len(v) == 0 || len(w) == 0
			if !is {
				r, s := root(v).word, root(w).word
				is = slices.Equal(r, s) || slices.Equal(r, back(s))
			}
			same(t, fmt.Sprint("Commute of ", v, " and ", w), commute(v, w), answer{is: is})
		}
	}
}

// TestTurnedCoresAreConjugate: two words are conjugate just where one's core,
// turned round, is the other's.
func TestTurnedCoresAreConjugate(t *testing.T) {
	all := reducedWords(2, 5)
	found := 0
	for _, v := range all {
		for _, w := range all {
			is := conj(v, w).f == api.Fault{}
			if is {
				found++
			}
			if is != turnedTo(core(v).word, core(w).word) {
				t.Errorf("Conj of %v and %v: %v", v, w, is)
			}
		}
	}
	if found <= len(all) {
		t.Errorf("only %d of %d pairs are conjugate", found, len(all)*len(all))
	}
}

// TestLongWords: what is made as a conjugated power is told as one.
func TestLongWords(t *testing.T) {
	for seed := range 60 {
		a := shortened(strewn(seed*7, 3, seed))
		r := append(shortened(strewn(seed+1, 2, seed+100)), 4)
		n := 1 + seed%11
		v := slices.Concat(a, power(r, n), back(a))
		same(t, "Reduce", reduce(v), answer{word: shortened(v)})
		same(t, "Core", core(v), coreByWords(v))
		same(t, "Root", root(v), answer{word: shortened(a, r, back(a)), n: n})
		b := shortened(strewn(seed*5, 26, seed+200))
		w := shortened(back(b), v, b)
		x := conj(v, w)
		same(t, "Conj's fault", x.f, api.Fault{})
		same(t, "Conj", shortened(back(x.word), v, x.word), w)
		same(t, "Conj is reduced", pair(x.word), -1)
		same(t, "Commute with a power", commute(v, slices.Concat(a, power(back(r), 3), back(a))), answer{is: true})
		same(t, "Commute with another", commute(v, slices.Concat(a, power(r, 3), []int{5}, back(a))), answer{})
	}
}

// TestWholeWords: words of as many letters as there may be.
func TestWholeWords(t *testing.T) {
	letters := power([]int{1}, api.MaxWord)
	odd := append(power([]int{1}, api.MaxWord-1), 2)
	turned := append([]int{2}, power([]int{1}, api.MaxWord-1)...)
	other := append(power([]int{1}, api.MaxWord-1), 3)
	nest := slices.Concat(power([]int{5, 6}, api.MaxWord/4), power([]int{-6, -5}, api.MaxWord/4))
	same(t, "Root", root(letters), answer{word: []int{1}, n: api.MaxWord})
	same(t, "Root of what is none", root(odd), answer{word: odd, n: 1})
	same(t, "Reduce", reduce(nest), answer{})
	same(t, "Mul", mul(letters, letters), answer{word: power([]int{1}, 2*api.MaxWord)})
	same(t, "Mul with the inverse", mul(odd, back(odd)), answer{})
	same(t, "Conj of what is turned", conjugated(t, odd, turned), turned)
	same(t, "Conj of what is not", conj(odd, other), refused(fault(api.ErrNone, 0)))
	same(t, "Commute", commute(odd, turned), answer{})
	same(t, "Commute with itself", commute(odd, odd), answer{is: true})
	around := slices.Concat(power([]int{7}, 999), []int{1, 2}, power([]int{-7}, 999))
	same(t, "Core", core(around), answer{word: []int{1, 2}, ahead: power([]int{7}, 999)})
	same(t, "Root of what is conjugated", root(around), answer{word: around, n: 1})
	same(t, "Conj of what is far off", conjugated(t, around, []int{2, 1}), []int{2, 1})
}

// conjugated is v, conjugated by what Conj tells of v and w.
func conjugated(t *testing.T, v, w []int) []int {
	t.Helper()
	x := conj(v, w)
	same(t, "fault", x.f, api.Fault{})
	same(t, "reduced", pair(x.word), -1)
	return shortened(back(x.word), v, x.word)
}

// TestTextAndParse: each turns the other's answers back, whatever stands there.
func TestTextAndParse(t *testing.T) {
	all := append(words(2, 5), words(26, 1)...)
	all = append(all, strewn(api.MaxWord, 26, 1))
	for _, w := range all {
		s := text(w)
		same(t, "Text's fault", s.f, api.Fault{})
		same(t, "how many bytes", len(s.text), max(1, len(w)))
		same(t, "Parse of "+s.text, parse(s.text), answer{word: w})
	}
	same(t, "all letters", parse("abcdefghijklmnopqrstuvwxyz").word, counted(26))
	same(t, "all opposite ones", parse("ZYXWVUTSRQPONMLKJIHGFEDCBA").word, back(counted(26)))
	same(t, "as many as there may be", len(parse(strings.Repeat("b", api.MaxWord)).word), api.MaxWord)
}

// counted has the numbers 1 to n.
func counted(n int) []int {
	var out []int
	for x := range n {
		out = append(out, x+1)
	}
	return out
}

// TestAnswersAreNew: what is done with an answer changes neither what was handed
// in nor another answer or part of it.
func TestAnswersAreNew(t *testing.T) {
	w := []int{1, 2, 3, 3, -2, -1}
	kept := slices.Clone(w)
	scribble := func(list []int) {
		for i := range list[:cap(list)] {
			list[:cap(list)][i] = 99
		}
	}
	for name, call := range callsOfOne() {
		one, other, want := call(w), call(w), call(w)
		scribble(one.word)
		scribble(other.ahead)
		same(t, name+": the second list", one.ahead, want.ahead)
		same(t, name+": the first list", other.word, want.word)
		same(t, name+": what was handed in", w, kept)
	}
	for name, call := range callsOfTwo() {
		v := []int{3, 3}
		got := call(v, w)
		scribble(got.word)
		same(t, name+": what was handed in", fmt.Sprint(v, w), fmt.Sprint([]int{3, 3}, kept))
	}
}

func TestAlwaysTheSame(t *testing.T) {
	all := words(2, 3)
	for range 3 {
		for name, call := range callsOfOne() {
			for _, w := range all {
				same(t, name, call(w), call(slices.Clone(w)))
			}
		}
		for name, call := range callsOfTwo() {
			for _, w := range all {
				same(t, name, call(w, all[20]), call(slices.Clone(w), all[20]))
			}
		}
	}
}
