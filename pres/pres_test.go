package pres_test

import (
	"fmt"
	"slices"
	"strconv"
	"testing"

	"cayley/api"
	"cayley/fold"
	"cayley/pres"
)

func TestExamples(t *testing.T) {
	rels := list("aaa", "bb", "abab")
	g, makes, f := pres.Group(2, rels)
	same(t, "fault", f, api.Fault{})
	same(t, "things", g.N, 6)
	same(t, "what makes it", makes, "[1 3]")
	same(t, "cosets of b", cosets(2, rels, list("b"), 10), answer{rows: [][]int{{1, 2, 0, 0}, {2, 0, 2, 2}, {0, 1, 1, 1}}})
	same(t, "where all commute", commuting(2, rels), answer{texts: []string{"2"}})
	same(t, "in itself", holds(g, makes, rels), answer{is: true})
	same(t, "the other way round", holds(g, []int{makes[1], makes[0]}, rels), answer{})
}

func TestKnownAnswers(t *testing.T) {
	// A letter's opposite stands behind it.
	same(t, "cosets of a a a", cosets(1, list("aaa"), nil, 10), answer{rows: [][]int{{1, 2}, {2, 0}, {0, 1}}})
	same(t, "group of a a a", group(1, list("aaa")), answer{g: api.Group{N: 3, Mul: []int{0, 1, 2, 1, 2, 0, 2, 0, 1}}, makes: []int{1}})
	same(t, "cosets of the subgroup of a a a", cosets(1, nil, list("aaa"), 10), answer{rows: [][]int{{1, 2}, {2, 0}, {0, 1}}})
	// Rows are numbered along each row, not letter by letter.
	same(t, "cosets of the fours", cosets(2, list("aa", "bb", "abab"), nil, 10), answer{rows: [][]int{{1, 1, 2, 2}, {0, 0, 3, 3}, {3, 3, 0, 0}, {2, 2, 1, 1}}})
	same(t, "group of the fours", group(2, list("aa", "bb", "abab")).makes, "[1 2]")
	same(t, "a is b's opposite", cosets(2, list("ab", "bbb"), nil, 10), answer{rows: [][]int{{1, 2, 2, 1}, {2, 0, 0, 2}, {0, 1, 1, 0}}})
	same(t, "a is the one", group(2, list("a", "bb")), answer{g: api.Group{N: 2, Mul: []int{0, 1, 1, 0}}, makes: []int{0, 1}})
	// x leads from b to b x, and words are read from the left on.
	same(t, "cosets of a", cosets(2, list("aa", "bb", "ababab"), list("a"), 10), answer{rows: [][]int{{0, 0, 1, 1}, {2, 2, 0, 0}, {1, 1, 2, 2}}})
	same(t, "cosets of a b A", cosets(2, list("aa", "bb", "ababab"), list("abA"), 10), answer{rows: [][]int{{1, 1, 2, 2}, {0, 0, 1, 1}, {2, 2, 0, 0}}})
	for n := 1; n <= 6; n++ {
		all := words(n, 1)
		one := answer{rows: [][]int{make([]int, 2*n)}}
		same(t, "cosets of all", cosets(n, nil, all, 10), one)
		same(t, "cosets of all but for one row", cosets(n, all, nil, 1), one)
		same(t, "group of the one alone", group(n, all), answer{g: api.Group{N: 1, Mul: []int{0}}, makes: make([]int, n)})
		same(t, "where nothing is asked for", commuting(n, nil), answer{n: n})
		same(t, "the words without letters", commuting(n, make([][]int, 20)), answer{n: n})
		same(t, "no group", group(n, nil), refused(much))
		same(t, "no group by words that are the one", group(n, [][]int{{}, {1, -1}, {n, 1, -1, -n}}), refused(much))
		same(t, "no cosets", cosets(n, nil, nil, api.MaxList), refused(much))
	}
}

// lists are all pairs of relators and subs that have words of the letters a and
// b, with up to most letters together.
func lists(most int) [][2][][]int {
	out := [][2][][]int{{}}
	for at := 0; at < len(out); at++ {
		rels, subs := out[at][0], out[at][1]
		left := most - len(slices.Concat(rels...)) - len(slices.Concat(subs...))
		for _, w := range words(2, left) {
			if len(subs) == 0 {
				out = append(out, [2][][]int{append(slices.Clone(rels), w), nil})
			}
			out = append(out, [2][][]int{rels, append(slices.Clone(subs), w)})
		}
	}
	return out
}

// exact holds Cosets, of which it must tell all, against what words say.
func exact(t *testing.T, n int, rels, subs [][]int) {
	t.Helper()
	what := fmt.Sprint("Cosets of ", n, rels, subs)
	got := cosets(n, rels, subs, 10)
	if got.f == much {
		if commuting(n, slices.Concat(rels, subs)).n == 0 && !isLonger(n, rels, subs, 10, 14) {
			t.Errorf("%s: %v", what, got)
		}
		return
	}
	same(t, what, got, answer{rows: got.rows})
	asTold(t, what, n, rels, subs, got.rows)
	if long := longest(n, rels, subs, 5); len(got.rows) <= 5 && long != len(got.rows) {
		t.Errorf("%s: %v, but there are %d", what, got, long)
	}
	same(t, what+", no more", cosets(n, rels, subs, max(10, len(got.rows))), got)
}

func TestByTheWords(t *testing.T) {
	for _, l := range lists(4) {
		exact(t, 2, l[0], l[1])
	}
	for seed := range 3000 {
		c := newChance(seed)
		n := 1 + seed%3
		rels, subs := c.list(n+seed%2, 12/(2*n+2), n), c.list(n-seed%2, 12/(2*n+2), n)
		exact(t, n, rels, subs)
	}
}

// TestWithoutRelators: of a subgroup of a free group package fold tells how many
// cosets there are, whatever its words are.
func TestWithoutRelators(t *testing.T) {
	told := 0
	for seed := range 600 {
		c := newChance(seed)
		n := 1 + seed%3
		subs := c.list(2*n+seed%4, 1+seed%3, n)
		got := cosets(n, nil, subs, 100)
		index, _ := fold.Index(subs, n)
		if index == 0 {
			same(t, fmt.Sprint("Cosets of ", n, subs), got, refused(much))
			continue
		}
		told++
		same(t, fmt.Sprint("how many cosets of ", n, subs), len(got.rows), index)
		asTold(t, fmt.Sprint("Cosets of ", n, subs), n, nil, subs, got.rows)
	}
	if told < 200 {
		t.Errorf("only %d lists had cosets", told)
	}
}

// counted are presentations of which it is known how many cosets there are.
type counted struct {
	n          int
	rels, subs [][]int
	want       int
}

// few have words of up to 12 letters together.
func few() []counted {
	out := []counted{
		{2, list("abaBAB", "aaa"), nil, 24},
		{2, list("abaBAB", "aaaa"), nil, 96},
		{2, list("abaBAB", "aaaaa"), nil, 600},
		{2, list("abaBAB", "bbbbb"), list("a"), 120},
		{2, list("aaa", "bbb", "abab"), nil, 12},
		{2, list("aaa", "bbb", "abab", "aB"), nil, 1},
		{2, list("aaabbb", "aaBab"), nil, 27},
		{3, list("abC", "bcA", "caB"), list("a"), 2},
		{4, list("aab", "bbc", "ccd", "dda"), nil, 15},
		{4, list("aab", "bbc", "ccd", "ddA"), nil, 17},
		{6, list("aB", "bC", "cD", "dE", "eF", "ff"), nil, 2},
		// The groups are not finite.
		{2, list("aa", "bb"), list("abababab"), 8},
		{2, list("abAB"), list("aaaa", "bbbb"), 16},
		{2, list("AbaBB"), list("bbbbb", "aa"), 10},
		// Far more cosets are made on the way than are left in the end.
		{2, list("AAA", "BBBABBaba"), nil, 84},
		{2, list("bbbabbABA", "aaa"), nil, 84},
		{2, list("bbb", "AbaBaabaa"), nil, 84},
		{3, list("BAA", "BBBa", "CCAcB"), nil, 203},
		{3, list("CCCb", "aaBAC", "CBB"), nil, 203},
	}
	for n := 1; n <= 7; n++ {
		out = append(out, counted{2, [][]int{word("AbaBB"), power([]int{1}, n)}, nil, n * (1<<n - 1)})
	}
	return out
}

// many have more letters: of these it might be told, too, that cosets are too many.
func many() []counted {
	a, b := []int{1}, []int{2}
	mirrors := list("aa", "bb", "cc", "dd", "ee", "ababab", "bcbcbc", "cdcdcd", "dedede", "acac", "adad", "bdbd", "aeae", "bebe", "cece")
	return []counted{
		{2, list("aa", "bbb", "ababababababab", "abABabABabABabAB"), nil, 168},
		{2, list("aa", "bbb", "ababababababab", "abABabABabABabAB"), list("ab"), 24},
		{5, mirrors, nil, 720},
		{5, mirrors, list("a", "b", "c", "d"), 6},
		{5, mirrors, list("a", "b", "d", "e"), 20},
		{1, [][]int{power(a, api.MaxList)}, nil, api.MaxList},
		{1, nil, [][]int{power(a, api.MaxList)}, api.MaxList},
		{1, nil, slices.Repeat([][]int{power(a, 100)}, 20), 100},
		{2, list("abAB"), [][]int{power(a, 30), power(b, 33)}, 990},
		{2, append(list("abAB"), power(a, 30), power(b, 33)), nil, 990},
	}
}

// TestHowMany: cosets are told up to their number, and none below.
func TestHowMany(t *testing.T) {
	for i, c := range append(few(), many()...) {
		what := fmt.Sprint("list ", i)
		got := cosets(c.n, c.rels, c.subs, api.MaxList)
		same(t, what+": how many", len(got.rows), c.want)
		asTold(t, what, c.n, c.rels, c.subs, got.rows)
		same(t, what+": just as many", cosets(c.n, c.rels, c.subs, c.want), got)
		if c.want > 1 {
			same(t, what+": too many", cosets(c.n, c.rels, c.subs, c.want-1), refused(much))
		}
		if len(c.subs) == 0 && c.want > api.MaxGroup {
			same(t, what+": no group", group(c.n, c.rels), refused(much))
		}
	}
}

// TestEndless: there are infinitely many cosets, or more than MaxList.
func TestEndless(t *testing.T) {
	for i, c := range []counted{
		{2, list("aa", "bb"), nil, 0},
		{2, list("aa", "bb"), list("a"), 0},
		{2, list("aa", "bbb"), list("b"), 0},
		{2, list("aaa", "bbb", "ababab"), nil, 0},
		{2, list("abaBAB"), list("aaa", "bbb"), 0},
		{2, list("abAB"), list("aaaaa"), 0},
		{3, list("aa", "bb", "cc"), nil, 0},
		{3, list("aa", "bb", "cc", "ababab"), list("a"), 0},
		{4, list("AbaBB", "BcbCC", "CdcDD", "DadAA"), nil, 0},
		{6, list("aa", "bb", "cc", "dd", "ee", "ff"), nil, 0},
		{2, list("aaa", "bbbbABAbA"), nil, 0},
		{2, [][]int{word("abaBAB"), power([]int{2}, 6)}, list("a"), 0},
		{2, [][]int{word("AbaBB"), power([]int{1}, 8)}, nil, 0},
		{1, [][]int{power([]int{1}, api.MaxList+1)}, nil, 0},
		{1, nil, [][]int{power([]int{1}, api.MaxList+1)}, 0},
		{2, list("abAB"), [][]int{power([]int{1}, 13), power([]int{2}, 77)}, 0},
	} {
		what := fmt.Sprint("list ", i)
		same(t, what, cosets(c.n, c.rels, c.subs, api.MaxList), refused(much))
		same(t, what+" without subs", group(c.n, c.rels), refused(much))
	}
}

// TestLongWords: it does not take long until it is given up to read them.
func TestLongWords(t *testing.T) {
	c := newChance(1)
	same(t, "two words of 1000 letters", cosets(2, [][]int{c.word(1000, 2), c.word(1000, 2)}, nil, 10), refused(much))
	rels := c.list(20, 100, 6)
	for i := range rels {
		rels[i] = append(c.word(99, 6), i%6+1)
	}
	same(t, "twenty words of 100 letters", group(6, rels), refused(much))
}

// TestGroupsUpToTheLimit: those of MaxGroup things are told, greater ones are not.
func TestGroupsUpToTheLimit(t *testing.T) {
	a := []int{1}
	for n := api.MaxGroup - 3; n <= api.MaxGroup+3; n++ {
		got := group(1, [][]int{power(a, n)})
		if n > api.MaxGroup {
			same(t, fmt.Sprint(n, " things"), got, refused(much))
			continue
		}
		same(t, fmt.Sprint(n, " things"), got, answer{g: got.g, makes: []int{1}})
		same(t, fmt.Sprint("how many of ", n), got.g.N, n)
	}
	same(t, "58 things and mirrors", group(2, append(list("bb", "abab"), power(a, 30))).g.N, 60)
	same(t, "62 things and mirrors", group(2, append(list("bb", "abab"), power(a, 31))), refused(much))
}

// TestAbel holds Abel against what is known of words' sums.
func TestAbel(t *testing.T) {
	for _, c := range []struct {
		n    int
		rels [][]int
		want answer
	}{
		{2, list("abAB", "aa"), answer{texts: []string{"2"}, n: 1}},
		{2, list("abAB"), answer{n: 2}},
		{2, list("aaaa", "bbbbbb"), answer{texts: []string{"2", "12"}}},
		{2, list("ab", "ab", "aabb"), answer{n: 1}},
		{2, list("aabA", "bbbab"), answer{texts: []string{"3"}}},
		{3, list("aB", "bC"), answer{n: 1}},
		{6, list("aab", "bbc", "ccd", "dde", "eef", "ffA"), answer{texts: []string{"65"}}},
		{6, list("F", "eF", "dE"), answer{n: 3}},
		{1, [][]int{power([]int{1}, api.MaxWord)}, answer{texts: []string{"2000"}}},
		{1, [][]int{power([]int{-1}, api.MaxWord)}, answer{texts: []string{"2000"}}},
		{1, [][]int{power([]int{1}, 1150), power([]int{-1}, 850)}, answer{texts: []string{"50"}}},
		{3, [][]int{power([]int{1}, 661), power([]int{2}, 667), power([]int{3}, 672)}, answer{texts: []string{strconv.Itoa(661 * 667 * 672)}}},
		{6, append(list("aa"), slices.Repeat([][]int{power([]int{2, 3, -2, -3, 6}, 20)}, 19)...), answer{texts: []string{"2", "20"}, n: 4}},
	} {
		same(t, fmt.Sprint("Abel of ", c.n, " and ", len(c.rels), " words"), commuting(c.n, c.rels), c.want)
	}
}
