package fold_test

import (
	"fmt"
	"math"
	"slices"
	"testing"

	"cayley/api"
	"cayley/fold"
)

// wrongLists have the fault that all calls must tell of each.
func wrongLists() []struct {
	l    [][]int
	want api.Fault
} {
	a := func(n int) []int { return power([]int{1}, n) }
	return []struct {
		l    [][]int
		want api.Fault
	}{
		{make([][]int, 21), fault(api.ErrMany, 0)},
		{slices.Repeat([][]int{{1}}, 21), fault(api.ErrMany, 0)},
		{slices.Repeat([][]int{{0}}, 21), fault(api.ErrMany, 0)},
		{slices.Repeat([][]int{a(api.MaxWord)}, 500), fault(api.ErrMany, 0)},
		{slices.Repeat([][]int{{0}}, 20), fault(api.ErrRange, 0)},
		{append(make([][]int, 19), []int{27}), fault(api.ErrRange, 19)},
		{[][]int{{1}, {2, -27}, {0}}, fault(api.ErrRange, 1)},
		{[][]int{{1}, {2}, {1, 1, 1, 0}}, fault(api.ErrRange, 2)},
		{[][]int{{1}, {math.MinInt}}, fault(api.ErrRange, 1)},
		{[][]int{{math.MaxInt}}, fault(api.ErrRange, 0)},
		{[][]int{{1, -1}, {1 + 1<<32}}, fault(api.ErrRange, 1)},
		{[][]int{a(api.MaxWord + 1)}, fault(api.ErrMany, 0)},
		{[][]int{{1}, make([]int, api.MaxWord+1)}, fault(api.ErrMany, 1)},
		{[][]int{{1}, a(api.MaxWord)}, fault(api.ErrMany, 1)},
		{[][]int{a(api.MaxWord), nil, {}, {1}}, fault(api.ErrMany, 3)},
		{[][]int{a(1000), a(1000), nil, {1}, {1}}, fault(api.ErrMany, 3)},
		{[][]int{a(1000), power([]int{1, -1}, 500), {2}}, fault(api.ErrMany, 2)},
		{append(slices.Repeat([][]int{a(105)}, 19), a(6)), fault(api.ErrMany, 19)},
		// At one word what chapter 15's Check says comes first.
		{[][]int{a(api.MaxWord), {0}}, fault(api.ErrRange, 1)},
		{[][]int{a(1500), append(a(600), 0)}, fault(api.ErrRange, 1)},
		// An earlier word's fault comes ahead of a later one's.
		{[][]int{a(1500), a(501), {0}}, fault(api.ErrMany, 1)},
		{[][]int{{27}, a(api.MaxWord + 1)}, fault(api.ErrRange, 0)},
		{[][]int{a(api.MaxWord + 1), {27}}, fault(api.ErrMany, 0)},
	}
}

// rightLists are at the limits, and Check says nothing of them.
func rightLists() [][][]int {
	return [][][]int{
		nil, {}, {nil}, make([][]int, 20), {{26, -26}},
		{power([]int{1}, api.MaxWord)},
		{nil, power([]int{2, -2}, api.MaxWord/2), nil},
		slices.Repeat([][]int{power([]int{-26}, 100)}, 20),
		{power([]int{3}, 1999), {1}},
	}
}

func TestFaultsOfOneList(t *testing.T) {
	for i, wrong := range wrongLists() {
		for name, call := range callsOfOne() {
			same(t, fmt.Sprint(name, " of wrong list ", i), call(wrong.l), refused(wrong.want))
		}
	}
	for i, l := range rightLists() {
		for name, call := range callsOfOne() {
			same(t, fmt.Sprint(name, " of right list ", i), call(l).f, api.Fault{})
		}
	}
}

// TestFaultsOfTwoLists: what is wrong with the first list is told first,
// whatever is wrong with the second one.
func TestFaultsOfTwoLists(t *testing.T) {
	for name, call := range callsOfTwo() {
		for _, first := range wrongLists() {
			for _, right := range rightLists() {
				same(t, name+" of a wrong list", call(first.l, right), refused(first.want))
				same(t, name+" with a wrong list", call(right, first.l), refused(first.want))
			}
			for _, second := range wrongLists() {
				same(t, name+" of wrong lists", call(first.l, second.l), refused(first.want))
			}
		}
		for _, l := range rightLists() {
			for _, m := range rightLists() {
				same(t, name+" of right lists", call(l, m).f, api.Fault{})
			}
		}
	}
}

// TestEveryLetter: those from 1 to 26 and their opposites are letters, no other
// numbers are.
func TestEveryLetter(t *testing.T) {
	for x := -300; x <= 300; x++ {
		want, inWord := fault(api.ErrRange, 1), fault(api.ErrRange, 2)
		if x != 0 && -26 <= x && x <= 26 {
			want, inWord = api.Fault{}, api.Fault{}
		}
		l := [][]int{{25}, {25, 25, x}, {1}}
		for name, call := range callsOfOne() {
			same(t, fmt.Sprint(name, " with ", x), call(l).f, want)
		}
		same(t, fmt.Sprint("Same with ", x), equal(l, l).f, want)
		same(t, fmt.Sprint("Meet with ", x), meet(l, l).f, want)
		same(t, fmt.Sprint("Member of ", x), member(l[:1], l[1]).f, inWord)
	}
}

// TestFaultsOfMembersWord: they are told At the letter, behind all of the list's.
func TestFaultsOfMembersWord(t *testing.T) {
	long := power([]int{1}, api.MaxWord)
	for _, c := range []struct {
		w    []int
		want api.Fault
	}{
		{append(slices.Clone(long), 1), fault(api.ErrMany, 0)},
		{make([]int, api.MaxWord+1), fault(api.ErrMany, 0)},
		{append(slices.Clone(long[1:]), 0), fault(api.ErrRange, api.MaxWord-1)},
		{[]int{0}, fault(api.ErrRange, 0)},
		{[]int{1, -1, 27}, fault(api.ErrRange, 2)},
		{[]int{3, math.MinInt, 0}, fault(api.ErrRange, 1)},
	} {
		for _, l := range rightLists() {
			same(t, "Member of a wrong word", member(l, c.w), refused(c.want))
		}
		for _, wrong := range wrongLists() {
			same(t, "Member of a wrong word in a wrong list", member(wrong.l, c.w), refused(wrong.want))
		}
	}
	same(t, "Member of a long word", member([][]int{{1}}, long), answer{is: true})
	same(t, "a long list and a long word", member([][]int{long}, long), answer{is: true})
}

// TestFaultsOfIndex: of the list, of the number, of letters beyond it.
func TestFaultsOfIndex(t *testing.T) {
	l := [][]int{{1}, {4, -4}, {2, 3, -3, 2}, {-3}, {5}}
	for _, n := range []int{0, -1, 27, math.MinInt, math.MaxInt, 1 << 32, 1<<32 + 5} {
		for _, right := range append(rightLists(), l) {
			same(t, fmt.Sprint("Index in ", n), index(right, n), refused(fault(api.ErrRange, 1)))
		}
		for _, wrong := range wrongLists() {
			same(t, fmt.Sprint("Index of a wrong list in ", n), index(wrong.l, n), refused(wrong.want))
		}
	}
	for _, wrong := range wrongLists() {
		same(t, "Index of a wrong list", index(wrong.l, 1), refused(wrong.want))
	}
	same(t, "in a", index(l, 1), refused(fault(api.ErrKind, 2)))
	same(t, "in a and b", index(l, 2), refused(fault(api.ErrKind, 3)))
	same(t, "in a to c", index(l, 3), refused(fault(api.ErrKind, 4)))
	same(t, "in a to d", index(l, 4), refused(fault(api.ErrKind, 4)))
	same(t, "in a to e", index(l, 5), answer{})
	for n := 1; n <= 26; n++ {
		for x := 1; x <= 26; x++ {
			want := api.Fault{}
			if x > n {
				want = fault(api.ErrKind, 1)
			}
			same(t, fmt.Sprint(x, " in ", n), index([][]int{{1}, {x}}, n).f, want)
			same(t, fmt.Sprint(-x, " in ", n), index([][]int{{1}, {1, -x}}, n).f, want)
			same(t, fmt.Sprint(x, " with its opposite in ", n), index([][]int{{1}, {x, -x}}, n).f, api.Fault{})
		}
	}
	// The word is of another kind, though the subgroup needs no such letter's way on.
	same(t, "a word twice", index([][]int{{1}, {1}, {1, 2}, {2}}, 1), refused(fault(api.ErrKind, 2)))
}

// TestWhateverIsGiven: no call panics or goes on without end, and what it tells
// of is a list's fault, if there is one.
func TestWhateverIsGiven(t *testing.T) {
	for seed := range 800 {
		c := newChance(seed)
		l, m := anyList(c), anyList(c)
		w := anyList(c)
		want := fold.Check(l)
		for name, call := range callsOfOne() {
			same(t, name, call(l).f, want)
		}
		if want == (api.Fault{}) {
			want = fold.Check(m)
		}
		same(t, "Same", equal(l, m).f, want)
		if got := meet(l, m).f; got.Code != api.ErrMuch || want != (api.Fault{}) {
			same(t, "Meet", got, want)
		}
		if len(w) > 0 {
			member(l, w[0])
		}
		index(l, c.below(30)-2)
	}
}

// anyList has words of any numbers, most of them small.
func anyList(c *chance) [][]int {
	out := c.list(c.below(22), 1+c.below(120), 1+c.below(28))
	if c.below(4) == 0 && len(out) > 0 {
		i := c.below(len(out))
		out[i] = append(out[i], c.below(1<<30)<<c.below(40))
	}
	return out
}

// TestOnlyRead: no call writes to what it is given, nor behind its length, nor
// reads what stands there.
func TestOnlyRead(t *testing.T) {
	behind := []int{1, 2, -2, 1, 77, 78}
	list := [][]int{behind[:4], behind[1:2], {1, 2, -1}, {99}, {0}}
	kept := fmt.Sprint(list, behind)
	l, exact := list[:3], [][]int{{1, 2, -2, 1}, {2}, {1, 2, -1}}
	for name, call := range callsOfOne() {
		same(t, name, call(l), call(exact))
		same(t, name+": what was handed in", fmt.Sprint(list, behind), kept)
	}
	for name, call := range callsOfTwo() {
		same(t, name, call(l, list[:1]), call(exact, exact[:1]))
		same(t, name, call(list[:1], l), call(exact[:1], exact))
		same(t, name+": what was handed in", fmt.Sprint(list, behind), kept)
	}
	same(t, "Member", member(l, behind[:4]), member(exact, exact[0]))
	same(t, "Index", index(l, 2), index(exact, 2))
	same(t, "what was handed in", fmt.Sprint(list, behind), kept)
}

// TestAnswersAreNew: what is done with an answer changes neither what was handed
// in nor another answer or part of it.
func TestAnswersAreNew(t *testing.T) {
	l := [][]int{{1, 1}, {2}, {1, 2, -1}}
	whole := [][]int{{1}, {2}}
	for name, call := range map[string]func() answer{
		"Basis":           func() answer { return basis(l) },
		"Meet":            func() answer { return meet(l, l) },
		"Meet with all":   func() answer { return meet(l, whole) },
		"Meet of all":     func() answer { return meet(whole, whole) },
		"Basis of all":    func() answer { return basis(whole) },
		"Meet of letters": func() answer { return meet(whole, [][]int{{3}, {2}}) },
	} {
		kept, got, want := fmt.Sprint(l, whole), call(), call()
		for i := range got.words {
			w := got.words[i][:cap(got.words[i])]
			for j := range w {
				w[j] = 99
			}
			same(t, name+": the lists behind", got.words[i+1:], want.words[i+1:])
		}
		clear(got.words[:cap(got.words)])
		same(t, name+": the next answer", call(), want)
		same(t, name+": what was handed in", fmt.Sprint(l, whole), kept)
	}
}

// TestAlwaysTheSame: what is answered hangs on the lists alone.
func TestAlwaysTheSame(t *testing.T) {
	for seed := range 100 {
		c := newChance(seed)
		l, m := c.list(5, 8, 3), c.list(4, 8, 3)
		for range 5 {
			for name, call := range callsOfOne() {
				same(t, name, call(l), call(slices.Clone(l)))
			}
			for name, call := range callsOfTwo() {
				same(t, name, call(l, m), call(slices.Clone(l), slices.Clone(m)))
			}
		}
	}
}
