package pres_test

import (
	"fmt"
	"slices"
	"strconv"
	"testing"

	"cayley/abel"
	"cayley/api"
	"cayley/hom"
	"cayley/known"
	"cayley/quot"
	"cayley/set"
	"cayley/table"
)

// presented is a group, and relators of what makes it, of which it is known that
// they present it.
type presented struct {
	g     api.Group
	makes []int
	rels  [][]int
}

// maker makes groups; where one is not made, the test ends.
type maker struct{ t *testing.T }

func (m maker) made(g api.Group, f api.Fault) api.Group {
	m.t.Helper()
	if f != (api.Fault{}) {
		m.t.Fatal(f)
	}
	return g
}

func (m maker) cyclic(n int) api.Group { return m.made(table.Cyclic(n)) }

// permuted is the group that permutations make, and relators of them.
func (m maker) permuted(rels [][]int, l ...[]int) presented {
	m.t.Helper()
	g, things, f := table.Perms(l)
	m.made(g, f)
	makes := make([]int, len(l))
	for i, p := range l {
		makes[i] = slices.IndexFunc(things, func(q []int) bool { return slices.Equal(p, q) })
	}
	return presented{g, makes, rels}
}

// series are the groups of which there is one for each number.
func (m maker) series() []presented {
	var out []presented
	a, b := []int{1}, []int{2}
	for n := 1; n <= 60; n++ {
		out = append(out, presented{m.cyclic(n), []int{1 % n}, [][]int{power(a, n)}})
	}
	for n := 1; n <= 30; n++ {
		rels := [][]int{power(a, n), word("bb"), word("abab")}
		out = append(out, presented{m.made(table.Dihedral(n)), []int{1 % n, n}, rels})
	}
	for n := 1; n <= 15; n++ {
		rels := [][]int{append(power(a, n), -2, -2), word("Baba")}
		out = append(out, presented{m.made(table.Dicyclic(n)), []int{1, 2 * n}, rels})
	}
	for k := 2; k <= 7; k++ {
		for n := 2; k*n <= 60; n++ {
			rels := [][]int{power(a, k), power(b, n), word("abAB")}
			out = append(out, presented{m.made(table.Product(m.cyclic(k), m.cyclic(n))), []int{n, 1}, rels})
		}
	}
	return out
}

// others are groups that are told by name.
func (m maker) others() []presented {
	fours := m.made(table.Product(m.cyclic(2), m.cyclic(2)))
	quaternions := m.made(table.Dicyclic(2))
	return []presented{
		m.permuted(list("aa", "bbb", "ababab"), []int{1, 0, 3, 2}, []int{0, 2, 3, 1}),
		m.permuted(list("aa", "bbb", "abababab"), []int{1, 0, 2, 3}, []int{0, 2, 3, 1}),
		m.permuted(list("aa", "bbb", "ababababab"), []int{1, 0, 3, 2, 4}, []int{2, 1, 4, 3, 0}),
		m.permuted(list("aa", "bb", "cc", "ababab", "bcbcbc", "acac"), []int{1, 0, 2, 3}, []int{0, 2, 1, 3}, []int{0, 1, 3, 2}),
		{quaternions, []int{1, 4, quaternions.Mul[1*8+4]}, list("abC", "bcA", "caB")},
		{m.cyclic(5), []int{1, 3, 4, 2}, list("abC", "bcD", "cdA", "daB")},
		{m.cyclic(11), []int{1, 4, 5, 9, 3}, list("abC", "bcD", "cdE", "deA", "eaB")},
		{m.cyclic(1), []int{0, 0}, list("aaBBB", "abaBAB")},
		{m.cyclic(1), []int{0, 0}, list("AbaBB", "BabAA")},
		{m.cyclic(1), []int{0, 0, 0}, list("AbaBB", "BcbCC", "CacAA")},
		{m.cyclic(60), []int{15, 20, 12}, list("aaaa", "bbb", "ccccc", "abAB", "acAC", "bcBC")},
		{m.cyclic(60), []int{1, 2, 4, 8, 16, 32}, list("aaB", "bbC", "ccD", "ddE", "eeF", "ffC")},
		{m.made(table.Product(fours, m.made(table.Product(fours, m.cyclic(2))))), []int{16, 8, 4, 2, 1}, list("aa", "bb", "cc", "dd", "ee", "abab", "acac", "adad", "aeae", "bcbc", "bdbd", "bebe", "cdcd", "cece", "dede")},
		{six(), []int{2, 5}, list("aaa", "bb", "abab")},
	}
}

func presentations(t *testing.T) []presented {
	m := maker{t}
	return append(m.series(), m.others()...)
}

// onto is where each thing of a presented group goes, if what makes it goes to
// what makes g, and whether this is a homomorphism that comes to all of g's things.
func onto(t *testing.T, p presented, g api.Group, makes []int) ([]int, bool) {
	t.Helper()
	one, f := table.One(g)
	same(t, "fault", f, api.Fault{})
	to := slices.Repeat([]int{-1}, g.N)
	to[one], _ = table.One(p.g)
	for found := []int{one}; len(found) > 0; found = found[1:] {
		for i, x := range makes {
			next := g.Mul[found[0]*g.N+x]
			if to[next] < 0 {
				to[next] = p.g.Mul[to[found[0]]*p.g.N+p.makes[i]]
				found = append(found, next)
			}
		}
	}
	f = hom.Check(g, p.g, to)
	return to, f == (api.Fault{}) && set.Of(to...).Len() == p.g.N
}

// TestGroupsThatAreKnown: Group has as many things, and what makes it goes to
// what makes the known one.
func TestGroupsThatAreKnown(t *testing.T) {
	for _, p := range presentations(t) {
		what := fmt.Sprint("Group of ", p.rels)
		n := len(p.makes)
		same(t, what+": relators hold", holds(p.g, p.makes, p.rels), answer{is: true})
		got := group(n, p.rels)
		same(t, what+": fault", got.f, api.Fault{})
		same(t, what+": things", got.g.N, p.g.N)
		same(t, what+": Check", table.Check(got.g), api.Fault{})
		same(t, what+": relators hold in it", holds(got.g, got.makes, p.rels), answer{is: true})
		to, is := onto(t, p, got.g, got.makes)
		if !is {
			t.Errorf("%s: its things go to %v", what, to)
		}
		asRows(t, what, n, p.rels, got)
		abelian(t, what, n, p.rels, got.g)
	}
}

// asRows holds Group against the rows of Cosets.
func asRows(t *testing.T, what string, n int, rels [][]int, got answer) {
	t.Helper()
	rows := cosets(n, rels, nil, max(10, got.g.N)).rows
	same(t, what+": rows", len(rows), got.g.N)
	asTold(t, what, n, rels, nil, rows)
	for a, row := range rows {
		for i, x := range got.makes {
			same(t, what+": what a letter stands for", x, rows[0][2*i])
			same(t, what+": a thing by a letter", got.g.Mul[a*got.g.N+x], row[2*i])
		}
	}
}

// abelian holds Abel against the group, where its commutators are the one.
func abelian(t *testing.T, what string, n int, rels [][]int, g api.Group) {
	t.Helper()
	factor, _, f := quot.Abel(g)
	same(t, what+": fault", f, api.Fault{})
	invariants, f := abel.Invariants(factor)
	same(t, what+": fault", f, api.Fault{})
	var texts []string
	for _, n := range invariants {
		texts = append(texts, strconv.Itoa(n))
	}
	same(t, what+": where all commute", commuting(n, rels), answer{texts: texts})
}

// TestCosetsInGroupsThatAreKnown: there are as many as the group's things,
// divided by those that subs make.
func TestCosetsInGroupsThatAreKnown(t *testing.T) {
	for seed, p := range presentations(t) {
		g, f := known.Open(p.g)
		same(t, "fault", f, api.Fault{})
		for again := range 4 {
			c := newChance(4*seed + again)
			subs := c.list(c.below(3), 5, len(p.makes))
			made := []int{g.One}
			for _, w := range subs {
				made = append(made, spelt(g, p.makes, w))
			}
			index := p.g.N / g.Made(set.Of(made...)).Len()
			what := fmt.Sprint("Cosets of ", p.rels, subs)
			got := cosets(len(p.makes), p.rels, subs, max(10, index))
			same(t, what+": how many", len(got.rows), index)
			asTold(t, what, len(p.makes), p.rels, subs, got.rows)
			same(t, what+": just as many", cosets(len(p.makes), p.rels, subs, index), got)
			if index > 1 {
				same(t, what+": too many", cosets(len(p.makes), p.rels, subs, index-1), refused(much))
			}
		}
	}
}

// spelt is what a word becomes, letter by letter.
func spelt(g known.Group, makes []int, w []int) int {
	at := g.One
	for _, x := range w {
		if x > 0 {
			at = g.Product(at, makes[x-1])
		} else {
			at = g.Product(at, g.Inverses[makes[-x-1]])
		}
	}
	return at
}

// small are groups of few things, one of them with its one elsewhere than at 0.
func small(t *testing.T) []api.Group {
	m := maker{t}
	four := m.permuted(nil, []int{1, 0, 3, 2}, []int{0, 2, 3, 1}).g
	cube := m.permuted(nil, []int{1, 0, 2, 3}, []int{0, 2, 3, 1}).g
	return []api.Group{
		m.cyclic(1), m.cyclic(2), m.cyclic(6), m.made(table.Dihedral(4)), six(), m.made(table.Dicyclic(2)), four, cube,
		m.made(table.Product(m.cyclic(3), m.cyclic(3))), m.made(table.Product(six(), m.cyclic(2))), moved(four, newChance(1).order(12)),
	}
}

// TestDyck: where relators hold in a group that makes make, the presented group
// goes to all of it, by a homomorphism.
func TestDyck(t *testing.T) {
	told := 0
	bases := [][][]int{list("a"), list("a", "b", "ab", "aB", "abAB"), list("a", "b", "c", "ab", "ac", "bc", "abAB", "acAC", "bcBC")}
	for at, g := range small(t) {
		h, _ := known.Open(g)
		orders, _ := table.Orders(g)
		for seed := range 15 {
			c := newChance(100*at + seed)
			makes := make([]int, 1+seed%3)
			for i := range makes {
				makes[i] = c.below(g.N)
			}
			if h.Made(set.Of(makes...)) != h.All() {
				continue
			}
			var rels [][]int
			for _, w := range append(bases[len(makes)-1], c.word(3, len(makes))) {
				rels = append(rels, power(w, orders[spelt(h, makes, w)]))
			}
			same(t, fmt.Sprint("holds: ", rels), holds(g, makes, rels), answer{is: true})
			got := group(len(makes), rels)
			if got.f == much {
				continue
			}
			told++
			if to, is := onto(t, presented{g, makes, rels}, got.g, got.makes); !is {
				t.Errorf("Group of %v goes to %v", rels, to)
			}
		}
	}
	if told < 60 {
		t.Errorf("only %d groups were told", told)
	}
}

// TestHolds: of single words, and of lists of them, what they become is the one,
// or it is not.
func TestHolds(t *testing.T) {
	for at, g := range small(t) {
		h, _ := known.Open(g)
		for seed := range 60 {
			c := newChance(100*at + seed)
			makes := make([]int, 1+seed%6)
			for i := range makes {
				makes[i] = c.below(g.N)
			}
			all := true
			rels := c.list(c.below(5), 3, len(makes))
			for _, w := range rels {
				is := spelt(h, makes, w) == h.One
				all = all && is
				same(t, fmt.Sprint("Holds of ", w), holds(g, makes, [][]int{w}), answer{is: is})
			}
			same(t, fmt.Sprint("Holds of ", rels), holds(g, makes, rels), answer{is: all})
			same(t, "Holds of none", holds(g, makes, nil), answer{is: true})
			same(t, "Holds of words without letters", holds(g, makes, make([][]int, 20)), answer{is: true})
		}
	}
	same(t, "the last does not", holds(six(), []int{2, 5}, list("aaa", "bb", "ab")), answer{})
	same(t, "the first does not", holds(six(), []int{2, 5}, list("b", "aaa", "bb")), answer{})
	same(t, "a word that is not reduced", holds(six(), []int{2, 5}, list("abBA", "AabBaaa")), answer{is: true})
	same(t, "a long word", holds(six(), []int{2, 5}, [][]int{power([]int{1}, 1998)}), answer{is: true})
	same(t, "the longest word", holds(six(), []int{2, 5}, [][]int{power([]int{1}, 2000)}), answer{})
}
