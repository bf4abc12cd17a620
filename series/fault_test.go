package series_test

import (
	"fmt"
	"math"
	"slices"
	"testing"

	"cayley/api"
	"cayley/series"
	"cayley/table"
)

// wrongGroups have the fault that all calls must tell of each.
func wrongGroups() []struct {
	g    api.Group
	want api.Fault
} {
	nought := make([]int, 3600)
	return []struct {
		g    api.Group
		want api.Fault
	}{
		{api.Group{}, fault(api.ErrMany, 0)},
		{api.Group{N: -1, Mul: []int{0}}, fault(api.ErrMany, 0)},
		{api.Group{N: 61, Mul: make([]int, 3721)}, fault(api.ErrMany, 0)},
		{api.Group{N: math.MaxInt}, fault(api.ErrMany, 0)},
		{api.Group{N: math.MinInt}, fault(api.ErrMany, 0)},
		{api.Group{N: 1}, fault(api.ErrSize, 0)},
		{api.Group{N: 2, Mul: []int{0, 1, 1, 0, 0}}, fault(api.ErrSize, 0)},
		{api.Group{N: 2, Mul: []int{0, 1, 1, 2}}, fault(api.ErrRange, 3)},
		{api.Group{N: 2, Mul: []int{0, math.MinInt, 1, 0}}, fault(api.ErrRange, 1)},
		{api.Group{N: 2, Mul: []int{0, 0, 0, 0}}, fault(api.ErrNone, 0)},
		{api.Group{N: 60, Mul: nought}, fault(api.ErrNone, 0)},
		{api.Group{N: 3, Mul: []int{0, 1, 2, 1, 0, 0, 2, 0, 0}}, fault(api.ErrFalse, 1)},
		{api.Group{N: 2, Mul: []int{0, 1, 1, 1}}, fault(api.ErrKind, 1)},
		{api.Group{N: 2, Mul: []int{0, 0, 0, 1}}, fault(api.ErrKind, 0)},
	}
}

func TestFaultsOfGroupsComeFirst(t *testing.T) {
	for _, wrong := range wrongGroups() {
		for name, call := range ofGroup() {
			same(t, name, call(wrong.g), refused(wrong.want))
		}
		for _, l := range [][][]int{nil, {{0}}, {nil}, {{0, 1}, {0}}, {{0, 1}, {5}}, {{-1}}, make([][]int, 11)} {
			same(t, fmt.Sprint("Factors ", l), factors(wrong.g, l), refused(wrong.want))
		}
	}
}

// repeated has all of a group, and then a set so many times.
func repeated(whole, l []int, times int) [][]int {
	return append([][]int{whole}, slices.Repeat([][]int{l}, times)...)
}

// TestFaultsOfFactors, in their order: of Dihedral(4).
func TestFaultsOfFactors(t *testing.T) {
	g := given(t, table.Dihedral, 4)
	all, one := allOf(g), []int{0}
	for _, c := range []struct {
		what string
		l    [][]int
		want api.Fault
	}{
		{"none", nil, fault(api.ErrMany, 0)},
		{"none", [][]int{}, fault(api.ErrMany, 0)},
		{"eleven", repeated(all, one, 10), fault(api.ErrMany, 0)},
		{"eleven without things", make([][]int, 11), fault(api.ErrMany, 0)},
		{"very many", make([][]int, 1<<20), fault(api.ErrMany, 0)},
		{"ten", repeated(all, one, 9), fault(api.ErrNone, 1)},

		{"ten without things", make([][]int, 10), fault(api.ErrSize, 0)},
		{"all alone", [][]int{all}, fault(api.ErrSize, 0)},
		{"one alone", [][]int{one}, fault(api.ErrSize, 0)},
		{"nothing alone", [][]int{nil}, fault(api.ErrSize, 0)},
		{"first too short", [][]int{all[1:], {0, 2}, one}, fault(api.ErrSize, 0)},
		{"first too long", [][]int{append(slices.Clone(all), 8), one}, fault(api.ErrSize, 0)},
		{"last too short", [][]int{all, nil}, fault(api.ErrSize, 0)},
		{"last too long", [][]int{all, {0, 2}}, fault(api.ErrSize, 0)},
		{"last too long, no subgroups ahead", [][]int{make([]int, 8), {9}, {0, 2}}, fault(api.ErrSize, 0)},

		{"first is no set", [][]int{{7, 6, 5, 4, 3, 2, 1, 0}, one}, fault(api.ErrForm, 0)},
		{"first has one thing only", [][]int{make([]int, 8), one}, fault(api.ErrForm, 0)},
		{"first has what is no thing", [][]int{{1, 2, 3, 4, 5, 6, 7, 8}, one}, fault(api.ErrForm, 0)},
		{"last is not the one", [][]int{all, {2}}, fault(api.ErrForm, 1)},
		{"last is no thing", [][]int{all, {8}}, fault(api.ErrForm, 1)},
		{"last is far off", [][]int{all, {math.MaxInt}}, fault(api.ErrForm, 1)},
		{"below 0", [][]int{all, {-1, 0}, one}, fault(api.ErrForm, 1)},
		{"nothing", [][]int{all, nil, one}, fault(api.ErrForm, 1)},
		{"not with each two their product", [][]int{all, {0, 4, 5}, one}, fault(api.ErrForm, 1)},
		{"without an inverse", [][]int{all, {0, 1}, one}, fault(api.ErrForm, 1)},
		{"without the one", [][]int{all, {1, 2, 3}, one}, fault(api.ErrForm, 1)},
		{"falls", [][]int{all, {2, 0}, one}, fault(api.ErrForm, 1)},
		{"twice", [][]int{all, {0, 2, 2}, one}, fault(api.ErrForm, 1)},
		{"too many", [][]int{all, make([]int, 1<<20), one}, fault(api.ErrForm, 1)},
		{"the first of two", [][]int{all, {0, 2}, {0, 1}, {0, 3}, one}, fault(api.ErrForm, 2)},
		{"ahead of what is not so in it", [][]int{all, {0, 4}, {0, 2}, {0, 1}, one}, fault(api.ErrForm, 3)},

		{"something else", [][]int{all, {0, 1, 2, 3}, {0, 4}, one}, fault(api.ErrFalse, 2)},
		{"more than ahead", [][]int{all, {0, 1, 2, 3}, {0, 2}, {0, 1, 2, 3}, one}, fault(api.ErrFalse, 3)},
		{"all again", [][]int{all, {0, 1, 2, 3}, all, one}, fault(api.ErrFalse, 2)},
		{"not normal", [][]int{all, {0, 4}, one}, fault(api.ErrKind, 1)},
		{"not normal ahead of something else", [][]int{all, {0, 4}, {0, 2}, one}, fault(api.ErrKind, 1)},
		{"not simple", [][]int{all, one}, fault(api.ErrNone, 1)},
		{"not simple ahead of something else", [][]int{all, {0, 2}, {0, 4}, one}, fault(api.ErrNone, 1)},
		{"of four things", [][]int{all, {0, 1, 2, 3}, one}, fault(api.ErrNone, 2)},
		{"the same", [][]int{all, all, one}, fault(api.ErrNone, 1)},
		{"the one twice", [][]int{all, {0, 1, 2, 3}, {0, 2}, one, one}, fault(api.ErrNone, 4)},
	} {
		same(t, c.what, factors(g, c.l), refused(c.want))
	}
	same(t, "normal in the one ahead alone", factors(g, [][]int{all, {0, 2, 4, 6}, {0, 4}, one}), answer{sizes: []int{2, 2, 2}})
}

// TestNotSimpleOfMore: where nothing is between all and the one, and where
// something is.
func TestNotSimpleOfMore(t *testing.T) {
	even := evenOfFive(t)
	all, one := allOf(even), []int{oneIn(even)}
	same(t, "all twice", factors(even, [][]int{all, all, one}), refused(fault(api.ErrNone, 1)))
	for _, l := range subgroupsOf(even) {
		if len(l) > 1 && len(l) < 60 {
			same(t, fmt.Sprint("not normal ", l), factors(even, [][]int{all, l, one}), refused(fault(api.ErrKind, 1)))
		}
	}
	for n := 1; n <= api.MaxGroup; n++ {
		g := given(t, table.Cyclic, n)
		want := answer{sizes: []int{n}}
		if !isPrime(n) {
			want = refused(fault(api.ErrNone, 1))
		}
		same(t, fmt.Sprint("by the one, of ", n), factors(g, [][]int{allOf(g), {0}}), want)
	}
}

// everySeries has all lists of up to length of the sets.
func everySeries(sets [][]int, length int) [][][]int {
	out := [][][]int{nil}
	for at := 0; at < len(out); at++ {
		for _, s := range sets {
			if len(out[at]) < length {
				out = append(out, append(slices.Clone(out[at]), s))
			}
		}
	}
	return out
}

// TestEverySeries: no call may panic, and each has the fault that is the first.
func TestEverySeries(t *testing.T) {
	square, six := given(t, table.Dihedral, 4), given(t, table.Dihedral, 3)
	for _, g := range []api.Group{
		square, shuffled(square), strewn(square), six, shuffled(six), strewn(six),
		given(t, table.Dicyclic, 2), strewn(given(t, table.Cyclic, 6)), given(t, table.Cyclic, 1), shuffled(given(t, table.Cyclic, 2)),
	} {
		subgroups := subgroupsOf(g)
		one, n := oneIn(g), g.N
		odd := [][]int{
			nil, {n}, {-1}, {(one + 1) % n}, {one, one}, {n - 1, 0}, {one, math.MaxInt}, {math.MinInt, 0},
			make([]int, n), moved(n, func(i int) int { return n - 1 - i }), moved(n+1, func(i int) int { return i }),
		}
		for _, l := range everySeries(append(odd, subgroups...), 3) {
			same(t, fmt.Sprint("of ", n, " things: ", l), factors(g, l), factorsOf(g, subgroups, l))
		}
		for _, l := range everySeries(subgroups, 3) {
			l = append(append([][]int{allOf(g)}, l...), []int{one})
			same(t, fmt.Sprint("of ", n, " things: ", l), factors(g, l), factorsOf(g, subgroups, l))
		}
	}
}

// TestEverySet of a small group as the one between all and the one.
func TestEverySet(t *testing.T) {
	six := given(t, table.Dihedral, 3)
	for _, g := range []api.Group{six, shuffled(six), strewn(six), given(t, table.Cyclic, 6), given(t, table.Dicyclic, 2)} {
		subgroups := subgroupsOf(g)
		for bits := range 1 << g.N {
			set := slices.DeleteFunc(allOf(g), func(a int) bool { return bits>>a&1 == 0 })
			l := [][]int{allOf(g), set, {oneIn(g)}}
			same(t, fmt.Sprint(l), factors(g, l), factorsOf(g, subgroups, l))
		}
	}
}

// TestOnlyRead: neither what is handed in changes, nor what lies behind it, and that is not read.
func TestOnlyRead(t *testing.T) {
	for _, g := range []api.Group{given(t, table.Dihedral, 4), shuffled(given(t, table.Dihedral, 3)), given(t, table.Cyclic, 1), evenOfFive(t)} {
		mul := append(slices.Clone(g.Mul), 1, 2)
		lent := api.Group{N: g.N, Mul: mul[:len(g.Mul)]}
		for name, call := range ofGroup() {
			first := call(lent)
			mul[len(g.Mul)] = -7
			same(t, name+" reads behind", call(lent), first)
			same(t, name+" changed the group", mul, append(slices.Clone(g.Mul), -7, 2))
			mul[len(g.Mul)] = 1
		}
		list := toldSets(series.Composition(g)).sets
		first := factors(lent, list)
		mul[len(g.Mul)] = -7
		same(t, "Factors reads behind", factors(lent, list), first)
		same(t, "Factors changed the group", mul, append(slices.Clone(g.Mul), -7, 2))
		for _, l := range append(compositionsOf(g, subgroupsOf(g), 3), [][]int{allOf(g), {oneIn(g)}}, [][]int{allOf(g), {1, 0}, {oneIn(g)}}) {
			onlyRead(t, g, l)
		}
	}
}

// onlyRead hands l over with something behind it and behind each of its sets.
func onlyRead(t *testing.T, g api.Group, l [][]int) {
	t.Helper()
	first := factors(g, l)
	for _, behind := range []int{-7, 0, 3} {
		var lent, kept [][]int
		for _, s := range l {
			whole := append(slices.Clone(s), behind, behind)
			kept = append(kept, whole)
			lent = append(lent, whole[:len(s)])
		}
		lent = append(lent, []int{behind})
		same(t, "reads behind", factors(g, lent[:len(l)]), first)
		for i, s := range l {
			same(t, "changed a set", kept[i], append(slices.Clone(s), behind, behind))
			same(t, "changed the list", lent[i], s)
		}
		same(t, "changed what lies behind", lent[len(l)], []int{behind})
	}
}
