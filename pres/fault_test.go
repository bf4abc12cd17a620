package pres_test

import (
	"fmt"
	"math"
	"slices"
	"testing"

	"cayley/api"
	"cayley/fold"
	"cayley/pres"
	"cayley/table"
)

// wrongList is a list of words and the fault that all calls must tell of it, as
// that of the list with a number: 1 for relators, 2 for subs.
type wrongList struct {
	l    [][]int
	want func(number int) api.Fault
}

// at is a fault that stands at the same place in each list.
func at(code, place int) func(number int) api.Fault {
	return func(int) api.Fault { return fault(code, place) }
}

// beyond is the fault of a letter beyond n.
func beyond(number int) api.Fault { return fault(api.ErrKind, number) }

// wrongLists are wrong with each n up to 5.
func wrongLists() []wrongList {
	a := func(n int) []int { return power([]int{1}, n) }
	return []wrongList{
		{make([][]int, 21), at(api.ErrMany, 0)},
		{slices.Repeat([][]int{{0}}, 21), at(api.ErrMany, 0)},
		{slices.Repeat([][]int{{6}}, 21), at(api.ErrMany, 0)},
		{[][]int{{1}, {0}}, at(api.ErrRange, 1)},
		{[][]int{{1}, {-1}, {1, 27}, {0}}, at(api.ErrRange, 2)},
		{[][]int{{math.MinInt}}, at(api.ErrRange, 0)},
		{[][]int{{1 + 1<<32}}, at(api.ErrRange, 0)},
		{[][]int{a(api.MaxWord + 1)}, at(api.ErrMany, 0)},
		{[][]int{a(1000), a(1000), nil, {1}}, at(api.ErrMany, 3)},
		{[][]int{a(1500), a(501), {0}}, at(api.ErrMany, 1)},
		// What chapter 16's Check says of any word comes ahead of all letters beyond.
		{[][]int{{6}, {0}}, at(api.ErrRange, 1)},
		{[][]int{{6, -7}, a(1998), {1}}, at(api.ErrMany, 2)},
		{[][]int{{6}, {26}, {-27}}, at(api.ErrRange, 2)},
		{[][]int{{6}}, beyond},
		{[][]int{{-6}}, beyond},
		{[][]int{{1}, {}, {1, 1, -26}}, beyond},
		{[][]int{a(1999), {26}}, beyond},
		{append(make([][]int, 19), []int{6}), beyond},
		// It counts how the word stands, not what it becomes.
		{[][]int{{6, -6}}, beyond},
		{[][]int{{1, -7, 7, -1}}, beyond},
	}
}

// rightLists have nothing that is wrong with any n.
func rightLists() [][][]int {
	return [][][]int{
		nil, {}, {nil}, make([][]int, 20), {{1, -1}}, {power([]int{1}, api.MaxWord)},
		slices.Repeat([][]int{power([]int{-1}, 100)}, 20), {{}, {-1, -1}},
	}
}

// wrongNumbers are not from 1 to 6.
func wrongNumbers() []int {
	return []int{0, -1, 7, 8, 26, 1000, math.MinInt, math.MaxInt, 1 << 32, 1<<32 + 3}
}

func TestFaultsOfRelators(t *testing.T) {
	for name, call := range callsOfRels() {
		for i, wrong := range wrongLists() {
			for n := 1; n <= 5; n++ {
				same(t, fmt.Sprint(name, " of ", n, " and wrong list ", i), call(n, wrong.l), refused(wrong.want(1)))
			}
		}
		for i, right := range rightLists() {
			for n := 1; n <= 6; n++ {
				if f := call(n, right).f; f != (api.Fault{}) && f != much {
					t.Errorf("%s of %d and right list %d: %v", name, n, i, f)
				}
			}
		}
	}
}

// TestFaultsOfNumber: what is wrong with n is told ahead of all else.
func TestFaultsOfNumber(t *testing.T) {
	want := refused(fault(api.ErrRange, 1))
	for _, n := range wrongNumbers() {
		for _, right := range rightLists() {
			same(t, fmt.Sprint("Group of ", n), group(n, right), want)
			same(t, fmt.Sprint("Abel of ", n), commuting(n, right), want)
			same(t, fmt.Sprint("Cosets of ", n), cosets(n, right, right, 10), want)
		}
		for _, wrong := range wrongLists() {
			same(t, fmt.Sprint("Group of ", n), group(n, wrong.l), want)
			same(t, fmt.Sprint("Abel of ", n), commuting(n, wrong.l), want)
			same(t, fmt.Sprint("Cosets of ", n), cosets(n, wrong.l, wrong.l, 0), want)
			same(t, fmt.Sprint("Cosets of ", n), cosets(n, nil, wrong.l, -1), want)
		}
	}
}

// TestEveryLetter: those up to n and their opposites may stand there.
func TestEveryLetter(t *testing.T) {
	for n := 1; n <= 6; n++ {
		for x := -30; x <= 30; x++ {
			size := max(x, -x)
			want := func(number int) api.Fault {
				switch {
				case size == 0 || size > 26:
					return fault(api.ErrRange, 1)
				case size > n:
					return fault(api.ErrKind, number)
				}
				return api.Fault{}
			}
			l := [][]int{{1}, {1, x, 1}}
			all := words(n, 1)
			same(t, fmt.Sprint("Abel of ", n, l), commuting(n, l).f, want(1))
			same(t, fmt.Sprint("Holds of ", n, l), holds(six(), make([]int, n), l).f, want(1))
			same(t, fmt.Sprint("Cosets of ", n, l), cosets(n, l, all, 10).f, want(1))
			same(t, fmt.Sprint("Cosets with subs ", n, l), cosets(n, all, l, 10).f, want(2))
			same(t, fmt.Sprint("Group of ", n, l), group(n, append(l, all...)).f, want(1))
		}
	}
}

// TestFaultsOfCosets: relators' faults come ahead of those of subs, these ahead
// of that of most, and this one ahead of too many cosets.
func TestFaultsOfCosets(t *testing.T) {
	wrongMosts := []int{0, -1, api.MaxList + 1, math.MinInt, math.MaxInt, 1 << 32, 1<<32 + 10}
	for i, wrong := range wrongLists() {
		for _, most := range append(wrongMosts, 1, 10, api.MaxList) {
			for _, right := range rightLists() {
				what := fmt.Sprint("Cosets of wrong list ", i, " up to ", most)
				same(t, what, cosets(2, wrong.l, right, most), refused(wrong.want(1)))
				same(t, what+" as subs", cosets(2, right, wrong.l, most), refused(wrong.want(2)))
			}
			for _, second := range wrongLists() {
				same(t, "Cosets of two wrong lists", cosets(2, wrong.l, second.l, most), refused(wrong.want(1)))
			}
		}
	}
	for _, right := range rightLists() {
		for _, most := range wrongMosts {
			for n := 1; n <= 6; n++ {
				same(t, fmt.Sprint("Cosets up to ", most), cosets(n, right, right, most), refused(fault(api.ErrRange, 4)))
			}
		}
	}
	for most := 1; most <= api.MaxList; most++ {
		same(t, fmt.Sprint("all of one up to ", most), cosets(1, list("a"), nil, most), answer{rows: [][]int{{0, 0}}})
	}
}

// TestFaultsOfHolds: those of the group come first, then that of how many makes
// there are, then the relators', then those of makes.
func TestFaultsOfHolds(t *testing.T) {
	six := six()
	wrongGroups := []api.Group{
		{}, {N: -1}, {N: 61}, {N: 2}, {N: 1, Mul: []int{0, 0}}, {N: 2, Mul: []int{0, 1, 1, 2}}, {N: 2, Mul: []int{0, -1, 1, 0}},
		{N: 2, Mul: []int{0, 0, 0, 0}}, {N: 2, Mul: []int{0, 1, 1, 1}}, {N: 3, Mul: []int{0, 1, 2, 1, 0, 0, 2, 0, 0}}, {N: math.MaxInt},
	}
	for _, g := range wrongGroups {
		want := refused(table.Check(g))
		for _, makes := range [][]int{nil, {0}, {-1}, make([]int, 7)} {
			same(t, "Holds in a wrong group", holds(g, makes, list("a")), want)
			same(t, "Holds of wrong words in a wrong group", holds(g, makes, [][]int{{0}}), want)
		}
	}
	for _, makes := range [][]int{nil, {}, make([]int, 7), {0, 1, 2, 3, 4, 5, 6}, slices.Repeat([]int{-1}, 7), make([]int, 1000)} {
		same(t, "Holds of so many", holds(six, makes, nil), refused(fault(api.ErrRange, 1)))
		same(t, "Holds of so many and wrong words", holds(six, makes, [][]int{{0}}), refused(fault(api.ErrRange, 1)))
	}
	for _, wrong := range wrongLists() {
		same(t, "Holds of wrong words", holds(six, []int{0, 1}, wrong.l), refused(wrong.want(1)))
		same(t, "Holds of wrong words and no things", holds(six, []int{6, -1}, wrong.l), refused(wrong.want(1)))
	}
	for _, x := range []int{-1, 6, 7, math.MinInt, math.MaxInt, 1 << 32} {
		for at := range 6 {
			makes := []int{0, 1, 2, 3, 4, 5}
			makes[at] = x
			want := refused(fault(api.ErrSize, at))
			same(t, "no thing", holds(six, makes, list("aaa")), want)
			same(t, "no thing, and nothing is asked for", holds(six, makes, nil), want)
			makes[5] = -7
			same(t, "no things", holds(six, makes, list("aaa")), want)
			same(t, "no thing, and as many as n", holds(six, makes[:at+1], list("a")), refused(fault(api.ErrSize, at)))
		}
	}
}

// TestWhateverIsGiven: no call panics or goes on without end, and what it tells
// of is a list's fault, if there is one.
func TestWhateverIsGiven(t *testing.T) {
	for seed := range 50 {
		c := newChance(seed)
		n := c.below(9) - 1
		rels, subs := anyList(c), anyList(c)
		want := api.Fault{}
		if n < 1 || n > 6 {
			want = fault(api.ErrRange, 1)
		} else if f := fold.Check(rels); f != want {
			want = f
		}
		for name, call := range callsOfRels() {
			if n < 0 {
				continue // there are no so many makes
			}
			got := call(n, rels).f
			if got != want && (want != (api.Fault{}) || got != much && got != fault(api.ErrKind, 1)) {
				t.Errorf("%s of %d and %v: %v, want %v", name, n, rels, got, want)
			}
		}
		pres.Cosets(n, rels, subs, c.below(1100)-50)
		pres.Holds(api.Group{N: c.below(3), Mul: c.word(c.below(5), 2)}, c.word(c.below(8), 9), rels)
	}
}

// anyList has words of any numbers, most of them small.
func anyList(c *chance) [][]int {
	out := c.list(c.below(22), 1+c.below(120), 1+c.below(6))
	if c.below(4) == 0 && len(out) > 0 {
		i := c.below(len(out))
		out[i] = append(out[i], c.below(1<<30)<<c.below(40))
	}
	return out
}

// TestOnlyRead: no call writes to what it is given, nor behind its length, nor
// reads what stands there.
func TestOnlyRead(t *testing.T) {
	behind := []int{1, 1, 1, 2, 2, 77, 0}
	l := [][]int{behind[:3], behind[3:5], {1, 2, -2, 2, 1, 2}, {99}, {0}}
	makes := []int{2, 5, 99, -1}
	g := six()
	g.Mul = append(g.Mul, 99, -1)[:36]
	kept := fmt.Sprint(l, behind, makes, g.Mul[:38])
	exact := [][]int{{1, 1, 1}, {2, 2}, {1, 2, -2, 2, 1, 2}}
	for range 2 {
		for name, call := range callsOfRels() {
			same(t, name, call(2, l[:3]), call(2, exact))
		}
		same(t, "Cosets", cosets(2, l[:3], l[1:2], 10), cosets(2, exact, exact[1:2], 10))
		same(t, "Cosets with no relators", cosets(2, l[:0], l[:3], 10), cosets(2, nil, exact, 10))
		same(t, "Holds", holds(g, makes[:2], l[:3]), answer{is: true})
		same(t, "what was handed in", fmt.Sprint(l, behind, makes, g.Mul[:38]), kept)
	}
}

// TestAnswersAreNew: what is done with an answer changes neither what was handed
// in nor another answer or part of it.
func TestAnswersAreNew(t *testing.T) {
	rels, subs := list("aaa", "bb", "abab"), list("b")
	for name, call := range map[string]func() answer{
		"Cosets":          func() answer { return cosets(2, rels, subs, 10) },
		"Cosets of all":   func() answer { return cosets(2, rels, nil, 10) },
		"Cosets of subs":  func() answer { return cosets(1, nil, list("aaa"), 10) },
		"Group":           func() answer { return group(2, rels) },
		"Group of one":    func() answer { return group(1, list("a")) },
		"Abel":            func() answer { return commuting(2, rels) },
		"Abel of nothing": func() answer { return commuting(2, nil) },
	} {
		kept, got, want := fmt.Sprint(rels, subs), call(), call()
		for i := range got.rows {
			row := got.rows[i][:cap(got.rows[i])]
			for j := range row {
				row[j] = 99
			}
			same(t, name+": the rows behind", got.rows[i+1:], want.rows[i+1:])
		}
		for i := range got.g.Mul[:cap(got.g.Mul)] {
			got.g.Mul[:cap(got.g.Mul)][i] = 99
		}
		same(t, name+": what makes it", got.makes, want.makes)
		clear(got.makes[:cap(got.makes)])
		clear(got.texts[:cap(got.texts)])
		clear(got.rows[:cap(got.rows)])
		same(t, name+": the next answer", call(), want)
		same(t, name+": what was handed in", fmt.Sprint(rels, subs), kept)
	}
}

// TestAlwaysTheSame: what is answered hangs on what was handed in alone.
func TestAlwaysTheSame(t *testing.T) {
	for seed := range 30 {
		c := newChance(seed)
		rels, subs := c.list(4, 4, 2), c.list(2, 4, 2)
		for range 3 {
			for name, call := range callsOfRels() {
				same(t, name, call(2, rels), call(2, slices.Clone(rels)))
			}
			same(t, "Cosets", cosets(2, rels, subs, 20), cosets(2, slices.Clone(rels), slices.Clone(subs), 20))
		}
	}
}
