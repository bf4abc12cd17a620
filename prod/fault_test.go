package prod_test

import (
	"fmt"
	"math"
	"slices"
	"testing"

	"cayley/api"
	"cayley/table"
)

// wrongGroups have the fault that all calls must tell of each.
func wrongGroups() []struct {
	g    api.Group
	want api.Fault
} {
	nought := make([]int, 3600)
	return []struct {
		g    api.Group
		want api.Fault
	}{
		{api.Group{}, fault(api.ErrMany, 0)},
		{api.Group{N: -1, Mul: []int{0}}, fault(api.ErrMany, 0)},
		{api.Group{N: 61, Mul: make([]int, 3721)}, fault(api.ErrMany, 0)},
		{api.Group{N: math.MaxInt}, fault(api.ErrMany, 0)},
		{api.Group{N: math.MinInt}, fault(api.ErrMany, 0)},
		{api.Group{N: 1}, fault(api.ErrSize, 0)},
		{api.Group{N: 2, Mul: []int{0, 1, 1, 0, 0}}, fault(api.ErrSize, 0)},
		{api.Group{N: 2, Mul: []int{0, 1, 1, 2}}, fault(api.ErrRange, 3)},
		{api.Group{N: 2, Mul: []int{0, math.MinInt, 1, 0}}, fault(api.ErrRange, 1)},
		{api.Group{N: 2, Mul: []int{0, 0, 0, 0}}, fault(api.ErrNone, 0)},
		{api.Group{N: 60, Mul: nought}, fault(api.ErrNone, 0)},
		{api.Group{N: 3, Mul: []int{0, 1, 2, 1, 0, 0, 2, 0, 0}}, fault(api.ErrFalse, 1)},
		{api.Group{N: 2, Mul: []int{0, 1, 1, 1}}, fault(api.ErrKind, 1)},
		{api.Group{N: 2, Mul: []int{0, 0, 0, 1}}, fault(api.ErrKind, 0)},
	}
}

func TestFaultsOfGroupsComeFirst(t *testing.T) {
	lists := [][]int{nil, {0}, {1, 0}, {-1}, {99}, make([]int, 100)}
	two := given(t, table.Cyclic, 2)
	for _, wrong := range wrongGroups() {
		want := refused(wrong.want)
		same(t, "Split", split(wrong.g), want)
		for _, l := range lists {
			same(t, fmt.Sprint("Complements ", l), complements(wrong.g, l), want)
			for _, m := range lists {
				same(t, fmt.Sprint("Direct ", l, m), direct(wrong.g, l, m), want)
			}
		}
		for _, act := range [][][]int{nil, {nil}, {{0, 1}, {0, 1}}, {{-1}, {0}}, make([][]int, 100)} {
			same(t, fmt.Sprint("Semi, the first, ", act), semi(wrong.g, two, act), want)
			same(t, fmt.Sprint("Semi, the second, ", act), semi(two, wrong.g, act), want)
			for _, other := range wrongGroups() {
				same(t, fmt.Sprint("Semi, both, ", act), semi(wrong.g, other.g, act), want)
			}
		}
	}
}

// wrongSubgroups are lists that are no subgroups of Dihedral(4), with what must
// be told of each.
func wrongSubgroups() []struct {
	l    []int
	want api.Fault
} {
	return []struct {
		l    []int
		want api.Fault
	}{
		{[]int{0, 1, 2, 3, 4, 5, 6, 7, 8}, fault(api.ErrMany, 0)},
		{[]int{-1, 9, 9, 9, 9, 9, 9, 9, 9}, fault(api.ErrMany, 0)},
		{make([]int, 1<<16), fault(api.ErrMany, 0)},
		{[]int{-1}, fault(api.ErrRange, 0)},
		{[]int{8}, fault(api.ErrRange, 0)},
		{[]int{0, 1, 2, 3, 4, 5, 6, 8}, fault(api.ErrRange, 7)},
		{[]int{math.MaxInt}, fault(api.ErrRange, 0)},
		{[]int{0, math.MinInt}, fault(api.ErrRange, 1)},
		{[]int{0, 64}, fault(api.ErrRange, 1)},
		{[]int{4, 99, 2}, fault(api.ErrRange, 1)},
		{[]int{4, 2, 99}, fault(api.ErrForm, 1)},
		{[]int{0, 0}, fault(api.ErrForm, 1)},
		{[]int{2, 0}, fault(api.ErrForm, 1)}, // a normal subgroup, if it rose
		{[]int{0, 4, 4}, fault(api.ErrForm, 2)},
		{[]int{0, 1, 2, 3, 4, 5, 7, 6}, fault(api.ErrForm, 7)},
		{nil, fault(api.ErrFalse, 0)},
		{[]int{}, fault(api.ErrFalse, 0)},
		{[]int{2}, fault(api.ErrFalse, 0)},
		{[]int{0, 1}, fault(api.ErrFalse, 0)},
		{[]int{1, 2, 3}, fault(api.ErrFalse, 0)},
		{[]int{0, 1, 3}, fault(api.ErrFalse, 0)}, // conjugated it is always the same
		{[]int{0, 4, 5}, fault(api.ErrFalse, 0)},
		{[]int{0, 1, 2, 3, 4}, fault(api.ErrFalse, 0)},
	}
}

// TestFaultsOfSubgroups, in their order; those of the first one come first.
func TestFaultsOfSubgroups(t *testing.T) {
	g := given(t, table.Dihedral, 4)
	for _, c := range wrongSubgroups() {
		what := fmt.Sprint(c.l[:min(9, len(c.l))])
		same(t, "Complements "+what, complements(g, c.l), refused(c.want))
		for _, right := range subgroupsOf(g) {
			same(t, "Direct, the first, "+what, direct(g, c.l, right), refused(c.want))
			same(t, "Direct, the second, "+what, direct(g, right, c.l), refused(c.want))
		}
		for _, other := range wrongSubgroups() {
			same(t, "Direct, both, "+what, direct(g, c.l, other.l), refused(c.want))
		}
	}
}

// TestFaultsOfComplements: a subgroup's come first, then that it is not normal,
// then that there are too many things.
func TestFaultsOfComplements(t *testing.T) {
	square := given(t, table.Dihedral, 4)
	for _, l := range [][]int{{0, 4}, {0, 5}, {0, 6}, {0, 7}} {
		same(t, fmt.Sprint("not normal ", l), complements(square, l), refused(fault(api.ErrKind, 0)))
	}
	for n := 13; n <= 30; n++ {
		g := given(t, table.Dihedral, n)
		same(t, "too many entries", complements(g, make([]int, 61)), refused(fault(api.ErrMany, 0)))
		same(t, "no thing", complements(g, []int{0, 2 * n}), refused(fault(api.ErrRange, 1)))
		same(t, "falls", complements(g, []int{n, 0}), refused(fault(api.ErrForm, 1)))
		same(t, "no subgroup", complements(g, []int{0, 1}), refused(fault(api.ErrFalse, 0)))
		same(t, "not normal", complements(g, []int{0, n}), refused(fault(api.ErrKind, 0)))
		for _, l := range [][]int{{0}, first(n), first(2 * n)} {
			same(t, "many things", complements(g, l), refused(fault(api.ErrMany, 0)))
		}
	}
}

// TestManyThings: 24 are taken, more are not; of Direct all are.
func TestManyThings(t *testing.T) {
	for n := 1; n <= api.MaxGroup; n++ {
		g := given(t, table.Cyclic, n)
		want := api.Fault{}
		if n > 24 {
			want = fault(api.ErrMany, 0)
		}
		same(t, fmt.Sprint("Split of ", n), split(g).f, want)
		same(t, fmt.Sprint("Complements of ", n), complements(g, []int{0}).f, want)
		same(t, fmt.Sprint("Direct of ", n), direct(g, []int{0}, first(n)), answer{is: true})
		if want.Code != api.OK {
			same(t, fmt.Sprint("Split of ", n), split(g), refused(want))
			same(t, fmt.Sprint("Complements of ", n), complements(g, first(n)), refused(want))
		}
	}
	same(t, "Split of sixty", split(evenOfFive(t)), refused(fault(api.ErrMany, 0)))
}

// TestFaultsOfSemi, in their order: of Cyclic(4) and Cyclic(2).
func TestFaultsOfSemi(t *testing.T) {
	n, h := given(t, table.Cyclic, 4), given(t, table.Cyclic, 2)
	same4, back := []int{0, 1, 2, 3}, []int{0, 3, 2, 1}
	for _, c := range []struct {
		what string
		act  [][]int
		want api.Fault
	}{
		{"none", nil, fault(api.ErrSize, 0)},
		{"one", [][]int{same4}, fault(api.ErrSize, 0)},
		{"three", [][]int{same4, same4, same4}, fault(api.ErrSize, 0)},
		{"three that are wrong", [][]int{{9}, nil, {-1}}, fault(api.ErrSize, 0)},
		{"very many", make([][]int, 1<<16), fault(api.ErrSize, 0)},
		{"as many as the first has", [][]int{same4, same4, same4, same4}, fault(api.ErrSize, 0)},

		{"empty entries", [][]int{nil, nil}, fault(api.ErrSize, 0)},
		{"an empty entry", [][]int{same4, nil}, fault(api.ErrSize, 1)},
		{"too short", [][]int{same4, {0, 1, 2}}, fault(api.ErrSize, 1)},
		{"too long", [][]int{same4, {0, 1, 2, 3, 0}}, fault(api.ErrSize, 1)},
		{"too long, and no things", [][]int{same4, {9, -1, 9, 9, 9}}, fault(api.ErrSize, 1)},
		{"very long", [][]int{make([]int, 1<<16), same4}, fault(api.ErrSize, 0)},
		{"no thing", [][]int{same4, {0, 1, 2, 4}}, fault(api.ErrRange, 1)},
		{"below 0", [][]int{{-1, 1, 2, 3}, same4}, fault(api.ErrRange, 0)},
		{"far off", [][]int{same4, {math.MinInt, 1, math.MaxInt, 3}}, fault(api.ErrRange, 1)},
		{"no homomorphism, and no thing behind", [][]int{same4, {1, 1, 1, 4}}, fault(api.ErrRange, 1)},
		{"no homomorphism", [][]int{same4, {1, 2, 3, 0}}, fault(api.ErrFalse, 1)},
		{"no homomorphism from the second on", [][]int{same4, {0, 2, 1, 3}}, fault(api.ErrFalse, 1)},
		{"no homomorphism, and not each thing", [][]int{same4, {1, 1, 1, 1}}, fault(api.ErrFalse, 1)},
		{"not each thing", [][]int{same4, {0, 2, 0, 2}}, fault(api.ErrTwice, 1)},
		{"one thing alone", [][]int{same4, {0, 0, 0, 0}}, fault(api.ErrTwice, 1)},
		{"one thing alone for all", [][]int{{0, 0, 0, 0}, {0, 0, 0, 0}}, fault(api.ErrTwice, 0)},

		{"the first entry first", [][]int{{0, 0, 0, 0}, nil}, fault(api.ErrTwice, 0)},
		{"the first entry first", [][]int{{1, 2, 3, 0}, {0, 1, 2, 4}}, fault(api.ErrFalse, 0)},
		{"the first entry first", [][]int{{0, 1, 2, 4}, {0, 1, 2}}, fault(api.ErrRange, 0)},
		{"entries ahead of how they go together", [][]int{back, {0, 0, 0, 0}}, fault(api.ErrTwice, 1)},

		{"the one moves", [][]int{back, same4}, fault(api.ErrFalse, 0)},
		{"both move", [][]int{back, back}, fault(api.ErrFalse, 0)},
	} {
		same(t, c.what, semi(n, h, c.act), refused(c.want))
	}
	// In the group with the one at 1 it is the entry at 1 that must not move.
	turned := api.Group{N: 2, Mul: []int{1, 0, 0, 1}}
	same(t, "moves at 0", semi(n, turned, [][]int{back, same4}).f, api.Fault{})
	same(t, "moves at 1", semi(n, turned, [][]int{same4, back}), refused(fault(api.ErrFalse, 0)))
}

// TestSemiNotSoFurtherOn: the least thing is told, which is not always the
// first.
func TestSemiNotSoFurtherOn(t *testing.T) {
	three, four := given(t, table.Cyclic, 3), given(t, table.Cyclic, 4)
	keep, back := []int{0, 1, 2}, []int{0, 2, 1}
	same(t, "of four", semi(three, four, [][]int{keep, back, keep, keep}), refused(fault(api.ErrFalse, 1)))
	turned := renamed(four, func(a int) int { return (a + 3) % 4 }) // the one is 3
	same(t, "the one is 3", semi(three, turned, [][]int{back, keep, keep, keep}), refused(fault(api.ErrFalse, 0)))
	pair := times(t, given(t, table.Cyclic, 2), given(t, table.Cyclic, 2))
	same(t, "of pairs", semi(three, pair, [][]int{keep, keep, keep, back}), refused(fault(api.ErrFalse, 1)))
}

// TestSemiTooLarge: it is told last.
func TestSemiTooLarge(t *testing.T) {
	for _, c := range []struct {
		n, h int
		want api.Fault
	}{
		{1, 60, api.Fault{}}, {60, 1, api.Fault{}}, {6, 10, api.Fault{}}, {7, 8, api.Fault{}}, {59, 1, api.Fault{}},
		{2, 31, fault(api.ErrMuch, 0)}, {31, 2, fault(api.ErrMuch, 0)}, {8, 8, fault(api.ErrMuch, 0)},
		{60, 2, fault(api.ErrMuch, 0)}, {2, 60, fault(api.ErrMuch, 0)}, {60, 60, fault(api.ErrMuch, 0)},
	} {
		n, h := given(t, table.Cyclic, c.n), given(t, table.Cyclic, c.h)
		act := slices.Repeat([][]int{first(c.n)}, c.h)
		what := fmt.Sprint("of ", c.n, " and ", c.h)
		got := semi(n, h, act)
		same(t, what, got.f, c.want)
		if c.want.Code == api.OK {
			same(t, what, got, toldGroup(table.Product(n, h)))
			continue
		}
		same(t, what, got, refused(c.want))
		same(t, what+", one too few", semi(n, h, act[1:]), refused(fault(api.ErrSize, 0)))
		act[c.h-1] = first(c.n + 1)
		same(t, what+", a wrong entry", semi(n, h, act), refused(fault(api.ErrSize, c.h-1)))
		act[c.h-1] = make([]int, c.n)
		same(t, what+", no isomorphism", semi(n, h, act), refused(fault(api.ErrTwice, c.h-1)))
		if c.n > 2 {
			back := counted(c.n, func(x int) int { return (c.n - x) % c.n })
			same(t, what+", all are turned", semi(n, h, slices.Repeat([][]int{back}, c.h)), refused(fault(api.ErrFalse, 0)))
		}
	}
}

// everyList has all lists of up to length numbers from low to high.
func everyList(length, low, high int) [][]int {
	out := [][]int{nil}
	for at := 0; at < len(out); at++ {
		for x := low; x <= high && len(out[at]) < length; x++ {
			out = append(out, append(slices.Clone(out[at]), x))
		}
	}
	return out
}

// everySet has all lists that rise, of things of a group.
func everySet(n int) [][]int {
	var out [][]int
	for bits := range 1 << n {
		out = append(out, slices.DeleteFunc(first(n), func(a int) bool { return bits>>a&1 == 0 }))
	}
	return out
}

// everyAct hands over all lists of length of the entries.
func everyAct(entries [][]int, length int, take func(act [][]int)) {
	act := make([][]int, length)
	var fill func(at int)
	fill = func(at int) {
		if at == length {
			take(act)
			return
		}
		for _, m := range entries {
			act[at] = m
			fill(at + 1)
		}
	}
	fill(0)
}

// TestEveryListOfSmallGroups: no call may panic, and each has the fault that is
// the first.
func TestEveryListOfSmallGroups(t *testing.T) {
	for n := 1; n <= 3; n++ {
		g := given(t, table.Cyclic, n)
		lists := everyList(n+1, -1, n)
		faultsOfLists(t, g, lists)
		faultsOfLists(t, shuffled(g), lists)
		if n < 3 {
			faultsOfTwo(t, shuffled(g), lists)
		}
	}
	six := given(t, table.Dihedral, 3)
	for _, g := range []api.Group{six, shuffled(six), strewn(six), given(t, table.Dihedral, 4), given(t, table.Dicyclic, 2)} {
		faultsOfLists(t, g, everySet(g.N))
		if g.N == 6 {
			faultsOfTwo(t, g, everySet(g.N))
		}
	}
}

// faultsOfLists holds what Complements tells of each list against what must be
// told.
func faultsOfLists(t *testing.T, g api.Group, lists [][]int) {
	t.Helper()
	subgroups := subgroupsOf(g)
	for _, l := range lists {
		want := refused(wanted(g, l))
		if want.f.Code == api.OK && !isNormal(g, l) {
			want.f = fault(api.ErrKind, 0)
		}
		if want.f.Code == api.OK {
			want.lists = complementsOf(g, subgroups, l)
		}
		same(t, fmt.Sprint("Complements ", l), complements(g, l), want)
	}
}

// faultsOfTwo does so with Direct.
func faultsOfTwo(t *testing.T, g api.Group, lists [][]int) {
	t.Helper()
	for _, l := range lists {
		for _, m := range lists {
			want := refused(wanted(g, l))
			if want.f.Code == api.OK {
				want.f = wanted(g, m)
			}
			if want.f.Code == api.OK {
				want.is = directIn(g, l, m, first(g.N))
			}
			same(t, fmt.Sprint("Direct ", l, m), direct(g, l, m), want)
		}
	}
}

// TestEveryActOfSmallGroups: the same for Semi.
func TestEveryActOfSmallGroups(t *testing.T) {
	one, two, three := given(t, table.Cyclic, 1), given(t, table.Cyclic, 2), given(t, table.Cyclic, 3)
	held := func(n, h api.Group) func(act [][]int) {
		return func(act [][]int) {
			same(t, fmt.Sprint("of ", n.N, " and ", h.N, ": ", act), semi(n, h, act), semiOf(n, h, act))
		}
	}
	for _, n := range []api.Group{one, two, shuffled(two)} {
		for _, h := range []api.Group{one, two, shuffled(two)} {
			for length := range 3 {
				everyAct(everyList(n.N+1, -1, n.N), length, held(n, h))
			}
			everyAct([][]int{nil, first(n.N), {9}}, 3, held(n, h))
		}
	}
	full := slices.DeleteFunc(everyList(3, 0, 2), func(l []int) bool { return len(l) < 3 })
	for _, n := range []api.Group{three, shuffled(three)} {
		everyAct(append(full, nil, []int{0, 1}, []int{0, 1, 3}, []int{-1, 0, 0}), 2, held(n, shuffled(two)))
		everyAct(full, 3, held(n, three))
	}
}

// TestEveryActThatIsMadeOfAutomorphisms: of four things that are moved in six
// ways, by six things that do not commute, so that what comes first matters.
func TestEveryActThatIsMadeOfAutomorphisms(t *testing.T) {
	two, six := given(t, table.Cyclic, 2), given(t, table.Dihedral, 3)
	four := times(t, two, two)
	ways := [][]int{{0, 1, 2, 3}, {0, 1, 3, 2}, {0, 2, 1, 3}, {0, 2, 3, 1}, {0, 3, 1, 2}, {0, 3, 2, 1}}
	right := 0
	everyAct(ways, 6, func(act [][]int) {
		want := semiOf(four, six, act)
		same(t, fmt.Sprint(act), semi(four, six, act), want)
		if want.f.Code == api.OK {
			right++
		}
	})
	same(t, "how many", right, 10) // as many homomorphisms has a group of six into itself
	// With what comes first and what comes then changed about, it is not so.
	turned := renamed(six, func(a int) int { return a })
	for at := range turned.Mul {
		turned.Mul[at] = of(six, at%6, at/6)
	}
	differ := 0
	everyAct(ways, 6, func(act [][]int) {
		if semiOf(four, six, act).f.Code == api.OK && semi(four, turned, act).f.Code != api.OK {
			differ++
		}
	})
	same(t, "how many differ", differ, 6)
}

// TestOnlyRead: neither what is handed in changes, nor what lies behind it, and
// that is not read.
func TestOnlyRead(t *testing.T) {
	for _, g := range []api.Group{given(t, table.Dihedral, 4), shuffled(given(t, table.Cyclic, 6)), given(t, table.Cyclic, 1), evenOfFive(t)} {
		for _, l := range [][]int{nil, {oneIn(g)}, grownIn(g, []int{g.N - 1}), first(g.N)} {
			mul, list, other := append(slices.Clone(g.Mul), 1, 2), append(slices.Clone(l), 0, 1), append(slices.Clone(l), 0, 1)
			lent := api.Group{N: g.N, Mul: mul[:len(g.Mul)]}
			whole := []int{oneIn(g), 0, 1}
			ask := func() string {
				return fmt.Sprint(split(lent), complements(lent, list[:len(l)]), direct(lent, list[:len(l)], whole[:1]), direct(lent, other[:len(l)], list[:len(l)]))
			}
			before := ask()
			mul[len(g.Mul)], list[len(l)], other[len(l)], whole[1] = -7, -7, -7, -7
			same(t, "reads behind", ask(), before)
			same(t, "changed the group", mul, append(slices.Clone(g.Mul), -7, 2))
			same(t, "changed the first set", list, append(slices.Clone(l), -7, 1))
			same(t, "changed the second set", other, append(slices.Clone(l), -7, 1))
			same(t, "changed a set", whole, []int{oneIn(g), -7, 1})
		}
	}
}

// TestSemiOnlyReads: the same for Semi, and for each entry.
func TestSemiOnlyReads(t *testing.T) {
	four, two := given(t, table.Cyclic, 4), given(t, table.Cyclic, 2)
	for _, entry := range [][]int{{0, 3, 2, 1}, {0, 1, 2, 3}, {0, 0, 0, 0}, {1, 2, 3, 0}, {0, 1, 2}} {
		mul, other := append(slices.Clone(four.Mul), 1), append(slices.Clone(two.Mul), 1)
		keep, moves := []int{0, 1, 2, 3, 0, 0}, append(slices.Clone(entry), 0, 0)
		act := [][]int{keep[:4], moves[:len(entry)], {0, 1, 2, 3}}
		ask := func() answer {
			return semi(api.Group{N: 4, Mul: mul[:16]}, api.Group{N: 2, Mul: other[:4]}, act[:2])
		}
		before := fmt.Sprint(ask())
		mul[16], other[4], keep[4], moves[len(entry)], act[2] = -7, -7, -7, -7, nil
		same(t, "reads behind", ask(), before)
		same(t, "changed the first group", mul, append(slices.Clone(four.Mul), -7))
		same(t, "changed the second group", other, append(slices.Clone(two.Mul), -7))
		same(t, "changed an entry", keep, []int{0, 1, 2, 3, -7, 0})
		same(t, "changed an entry", moves, append(slices.Clone(entry), -7, 0))
		same(t, "changed the list", act, [][]int{{0, 1, 2, 3}, entry, nil})
	}
}
