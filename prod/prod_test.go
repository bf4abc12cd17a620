package prod_test

import (
	"fmt"
	"slices"
	"testing"

	"cayley/api"
	"cayley/hom"
	"cayley/prod"
	"cayley/quot"
	"cayley/sub"
	"cayley/table"
)

func TestExamples(t *testing.T) {
	three, two := given(t, table.Cyclic, 3), given(t, table.Cyclic, 2)
	g, f := prod.Semi(three, two, [][]int{{0, 1, 2}, {0, 2, 1}})
	same(t, "fault", f, api.Fault{})
	same(t, "isomorphic to Dihedral(3)", isomorphic(g, given(t, table.Dihedral, 3)), true)
	same(t, "its products", g, api.Group{N: 6, Mul: []int{
		0, 1, 2, 3, 4, 5,
		1, 0, 5, 4, 3, 2,
		2, 3, 4, 5, 0, 1,
		3, 2, 1, 0, 5, 4,
		4, 5, 0, 1, 2, 3,
		5, 4, 3, 2, 1, 0,
	}})
}

// TestSemiOfNamedGroups: what is known of some semidirect products.
func TestSemiOfNamedGroups(t *testing.T) {
	two, three, four := given(t, table.Cyclic, 2), given(t, table.Cyclic, 3), given(t, table.Cyclic, 4)
	pair, six := times(t, two, two), given(t, table.Dihedral, 3)
	for n := 1; n <= 30; n++ {
		back := counted(n, func(x int) int { return (n - x) % n })
		g, f := prod.Semi(given(t, table.Cyclic, n), two, [][]int{first(n), back})
		same(t, "fault", f, api.Fault{})
		same(t, fmt.Sprint("turns of ", n), isomorphic(g, given(t, table.Dihedral, n)), true)
	}
	round := []int{0, 2, 3, 1}
	g, f := prod.Semi(pair, three, [][]int{first(4), round, behind(round, round)})
	same(t, "fault", f, api.Fault{})
	same(t, "even ones of four", isomorphic(g, evenOfFour(t)), true)
	g, f = prod.Semi(three, four, [][]int{{0, 1, 2}, {0, 2, 1}, {0, 1, 2}, {0, 2, 1}})
	same(t, "fault", f, api.Fault{})
	same(t, "Dicyclic(3)", isomorphic(g, given(t, table.Dicyclic, 3)), true)
	// Six things move the three that are not the one as they like.
	act := [][]int{{0, 1, 2, 3}, {0, 2, 3, 1}, {0, 3, 1, 2}, {0, 2, 1, 3}, {0, 3, 2, 1}, {0, 1, 3, 2}}
	g, f = prod.Semi(pair, six, act)
	same(t, "fault", f, api.Fault{})
	same(t, "all of four", isomorphic(g, allOfFour(t)), true)
}

// actsOf are all ways in which the things of h move those of n, but none where
// there are too many automorphisms to be a group.
func actsOf(t *testing.T, n, h api.Group) [][][]int {
	t.Helper()
	autos, f := hom.Autos(n)
	same(t, "fault", f, api.Fault{})
	if len(autos) > api.MaxSmall {
		return nil
	}
	group := api.Group{N: len(autos)}
	for _, a := range autos {
		for _, b := range autos {
			group.Mul = append(group.Mul, slices.IndexFunc(autos, func(c []int) bool { return slices.Equal(c, behind(b, a)) }))
		}
	}
	all, f := hom.All(h, group)
	same(t, "fault", f, api.Fault{})
	var out [][][]int
	for _, m := range all {
		var act [][]int
		for _, a := range m {
			act = append(act, autos[a])
		}
		out = append(out, act)
	}
	return out
}

// TestSemiByTheWords, of all actions of small groups; it is a group, in which n
// is a normal subgroup, and h one of its complements.
func TestSemiByTheWords(t *testing.T) {
	small := called(groups(t, 12))
	for _, n := range small {
		for _, h := range small {
			if n.N*h.N > 48 {
				continue
			}
			for _, act := range actsOf(t, n, h) {
				what := fmt.Sprint("of ", n, " and ", h, " by ", act)
				got := semi(n, h, act)
				same(t, what, got, semiOf(n, h, act))
				same(t, what, table.Check(got.g), api.Fault{})
				normal := counted(n.N, func(x int) int { return x*h.N + oneIn(h) })
				other := counted(h.N, func(a int) int { return oneIn(n)*h.N + a })
				same(t, what, isSubgroup(got.g, normal) && isNormal(got.g, normal), true)
				same(t, what, isSubgroup(got.g, other), true)
				if got.g.N <= api.MaxSmall {
					l := complements(got.g, normal)
					same(t, what, slices.ContainsFunc(l.lists, func(m []int) bool { return slices.Equal(m, other) }), true)
				}
			}
		}
	}
}

// TestSemiWhereNothingMoves: it is the product.
func TestSemiWhereNothingMoves(t *testing.T) {
	list := called(groups(t, 10))
	for _, n := range list {
		for _, h := range list {
			if n.N*h.N <= api.MaxGroup {
				same(t, fmt.Sprint("of ", n.N, " and ", h.N), semi(n, h, slices.Repeat([][]int{first(n.N)}, h.N)), toldGroup(table.Product(n, h)))
			}
		}
	}
}

func TestAnswersThatAreKnown(t *testing.T) {
	one, square := given(t, table.Cyclic, 1), given(t, table.Dihedral, 4)
	turned := api.Group{N: 2, Mul: []int{1, 0, 0, 1}} // the one is 1
	same(t, "complements of the one", complements(one, []int{0}), answer{lists: [][]int{{0}}})
	same(t, "the one, split", split(one), answer{lists: [][]int{{0}}})
	same(t, "the one, twice", direct(one, []int{0}, []int{0}), answer{is: true})
	same(t, "complements of the one in two", complements(turned, []int{1}), answer{lists: [][]int{{0, 1}}})
	same(t, "complements of two in two", complements(turned, []int{0, 1}), answer{lists: [][]int{{1}}})
	same(t, "two, split", split(turned), answer{lists: [][]int{{0, 1}}})
	same(t, "complements of all turns", complements(square, []int{0, 1, 2, 3}), answer{lists: [][]int{{0, 4}, {0, 5}, {0, 6}, {0, 7}}})
	same(t, "complements of half a turn", complements(square, []int{0, 2}), answer{})
	same(t, "complements of 0 2 4 6", complements(square, []int{0, 2, 4, 6}), answer{lists: [][]int{{0, 5}, {0, 7}}})
	same(t, "complements in Dihedral(3)", complements(given(t, table.Dihedral, 3), []int{0, 1, 2}), answer{lists: [][]int{{0, 3}, {0, 4}, {0, 5}}})
	same(t, "none in the quaternions", complements(given(t, table.Dicyclic, 2), []int{0, 2}), answer{})
	same(t, "all of four by four", len(complements(allOfFour(t), normalsOf(allOfFour(t))[1]).lists), 4)
	same(t, "turns and a mirror", direct(square, []int{0, 1, 2, 3}, []int{0, 4}), answer{})
	hexagon := given(t, table.Dihedral, 6)
	same(t, "of six corners", direct(hexagon, []int{0, 3}, []int{0, 2, 4, 6, 8, 10}), answer{is: true})
	same(t, "the other way", direct(hexagon, []int{0, 2, 4, 6, 8, 10}, []int{0, 3}), answer{is: true})
	same(t, "too little", direct(hexagon, []int{0, 3}, []int{0, 2, 4}), answer{})
	same(t, "more than the one in both", direct(hexagon, []int{0, 3}, first(12)), answer{})
	same(t, "all and the one", direct(hexagon, first(12), []int{0}), answer{is: true})
	sixty := given(t, table.Cyclic, 60)
	multiples := func(k int) []int { return counted(60/k, func(i int) int { return i * k }) }
	same(t, "four and fifteen", direct(sixty, multiples(4), multiples(15)), answer{is: true})
	same(t, "two and thirty", direct(sixty, multiples(2), multiples(30)), answer{})
	same(t, "Cyclic(12), split", split(given(t, table.Cyclic, 12)), answer{lists: [][]int{{0, 4, 8}, {0, 3, 6, 9}}})
	same(t, "Cyclic(6), split", split(given(t, table.Cyclic, 6)), answer{lists: [][]int{{0, 3}, {0, 2, 4}}})
}

// TestHowManyParts: how many things they have is not free.
func TestHowManyParts(t *testing.T) {
	two, three, four, five := given(t, table.Cyclic, 2), given(t, table.Cyclic, 3), given(t, table.Cyclic, 4), given(t, table.Cyclic, 5)
	six, quaternions := given(t, table.Dihedral, 3), given(t, table.Dicyclic, 2)
	for _, c := range []struct {
		what  string
		g     api.Group
		sizes []int
	}{
		{"square", given(t, table.Dihedral, 4), []int{8}},
		{"five corners", given(t, table.Dihedral, 5), []int{10}},
		{"six corners", given(t, table.Dihedral, 6), []int{2, 6}},
		{"ten corners", given(t, table.Dihedral, 10), []int{2, 10}},
		{"twelve corners", given(t, table.Dihedral, 12), []int{24}},
		{"two corners", given(t, table.Dihedral, 2), []int{2, 2}},
		{"quaternions", quaternions, []int{8}},
		{"Dicyclic(3)", given(t, table.Dicyclic, 3), []int{12}},
		{"Dicyclic(6)", given(t, table.Dicyclic, 6), []int{24}},
		{"even ones of four", evenOfFour(t), []int{12}},
		{"and two", times(t, evenOfFour(t), two), []int{2, 12}},
		{"all of four", allOfFour(t), []int{24}},
		{"two, four times", times(t, two, two, two, two), []int{2, 2, 2, 2}},
		{"two and four", times(t, four, two), []int{2, 4}},
		{"four and four", times(t, four, four), []int{4, 4}},
		{"three and three", times(t, three, three), []int{3, 3}},
		{"three and six", times(t, six, three), []int{3, 6}},
		{"three and the quaternions", times(t, quaternions, three), []int{3, 8}},
		{"two, two and six", times(t, two, six, two), []int{2, 2, 6}},
		{"two, two and five", times(t, five, two, two), []int{2, 2, 5}},
		{"four and six", times(t, six, four), []int{4, 6}},
		{"Cyclic(16)", given(t, table.Cyclic, 16), []int{16}},
		{"Cyclic(24)", given(t, table.Cyclic, 24), []int{3, 8}},
		{"Cyclic(23)", given(t, table.Cyclic, 23), []int{23}},
	} {
		for _, g := range []api.Group{c.g, shuffled(c.g), strewn(c.g)} {
			parts := split(g)
			same(t, c.what, parts.f, api.Fault{})
			same(t, c.what, counted(len(parts.lists), func(i int) int { return len(parts.lists[i]) }), c.sizes)
		}
	}
}

// TestByTheWords: Complements, Direct and Split of all groups of up to 24
// things, held against all subgroups, found one by one.
func TestByTheWords(t *testing.T) {
	for i, g := range called(groups(t, 24)) {
		subgroups := subgroupsOf(g)
		for _, l := range subgroups {
			want := answer{f: fault(api.ErrKind, 0)}
			if isNormal(g, l) {
				want = answer{lists: complementsOf(g, subgroups, l)}
			}
			same(t, fmt.Sprint("group ", i, ", complements of ", l), complements(g, l), want)
			for _, m := range subgroups {
				same(t, fmt.Sprint("group ", i, ", direct ", l, m), direct(g, l, m), answer{is: directIn(g, l, m, first(g.N))})
			}
		}
		isSplit(t, g, subgroups, split(g))
	}
}

// isSplit holds what Split answers against the chapter's words.
func isSplit(t *testing.T, g api.Group, subgroups [][]int, got answer) {
	t.Helper()
	what := fmt.Sprint(got.lists, " of ", g)
	same(t, "fault "+what, got.f, api.Fault{})
	if len(got.lists) == 0 {
		t.Fatal("no parts of ", g)
	}
	same(t, "order "+what, got.lists, ordered(got.lists))
	for i, l := range got.lists {
		same(t, "subgroup "+what, wanted(g, l), api.Fault{})
		others := slices.Concat(slices.Delete(slices.Clone(got.lists), i, i+1)...)
		same(t, "with the others "+what, directIn(g, l, grownIn(g, others), first(g.N)), true)
		same(t, "of two smaller ones "+what, len(halvesOf(g, subgroups, l)), 0)
		same(t, "the one as a part "+what, len(l) == 1, g.N == 1)
	}
}

// TestDirectOfMoreThings: those above 24 are taken, too.
func TestDirectOfMoreThings(t *testing.T) {
	two, six := given(t, table.Cyclic, 2), given(t, table.Dihedral, 3)
	for _, g := range called([]api.Group{
		given(t, table.Cyclic, 60), given(t, table.Dihedral, 30), given(t, table.Dicyclic, 15), evenOfFive(t),
		times(t, six, six), times(t, two, allOfFour(t)), times(t, evenOfFour(t), given(t, table.Cyclic, 5)),
	}) {
		subgroups := subgroupsOf(g)
		step := 1 + len(subgroups)/25
		for at := 0; at < len(subgroups); at += step {
			for other := at % 3; other < len(subgroups); other += 3 {
				l, m := subgroups[at], subgroups[other]
				same(t, fmt.Sprint("of ", g.N, ": ", l, m), direct(g, l, m), answer{is: directIn(g, l, m, first(g.N))})
			}
		}
	}
}

// TestSchurAndZassenhausFollow: a normal subgroup has a complement, if no number
// above 1 divides how many things it has and how many cosets.
func TestSchurAndZassenhausFollow(t *testing.T) {
	for _, g := range called(groups(t, 24)) {
		for _, l := range normalsOf(g) {
			got := complements(g, l)
			same(t, "fault", got.f, api.Fault{})
			if gcd(len(l), g.N/len(l)) == 1 && len(got.lists) == 0 {
				t.Errorf("%v of %v has none", l, g)
			}
			for _, m := range got.lists {
				same(t, "as many as cosets", len(m)*len(l), g.N)
			}
		}
	}
}

// TestComplementsAreTheQuotient: each is isomorphic to it.
func TestComplementsAreTheQuotient(t *testing.T) {
	for _, g := range called(groups(t, 16)) {
		for _, l := range normalsOf(g) {
			quotient, _, f := quot.Quotient(g, l)
			same(t, "fault", f, api.Fault{})
			for _, m := range complements(g, l).lists {
				same(t, fmt.Sprint(m, " is the quotient by ", l), isomorphic(partOf(t, g, m), quotient), true)
			}
		}
	}
}

// partOf is a subgroup as a group.
func partOf(t *testing.T, g api.Group, l []int) api.Group {
	t.Helper()
	part, f := quot.Part(g, l)
	same(t, "fault", f, api.Fault{})
	return part
}

// sameParts: are the parts of g and of h isomorphic, one by one? (There are no
// two kinds of as many things in one group here, so the order of the parts is
// that of their kinds.)
func sameParts(t *testing.T, g, h api.Group, l, m [][]int) bool {
	t.Helper()
	return slices.EqualFunc(l, m, func(one, other []int) bool {
		return isomorphic(partOf(t, g, one), partOf(t, h, other))
	})
}

// TestKrullAndSchmidtFollow: however g is split, and whatever its things are
// called, the parts are isomorphic, one by one.
func TestKrullAndSchmidtFollow(t *testing.T) {
	for _, g := range groups(t, 24) {
		parts := split(g).lists
		for _, h := range []api.Group{shuffled(g), strewn(g)} {
			same(t, fmt.Sprint("called otherwise: ", g), sameParts(t, g, h, parts, split(h).lists), true)
		}
		if g.N == 16 || g.N == 24 { // of these there are too many ways
			continue
		}
		for _, others := range splitsOf(g, subgroupsOf(g), first(g.N)) {
			same(t, fmt.Sprint("split otherwise: ", others), sameParts(t, g, g, parts, others), true)
		}
	}
}

// TestSplitOfProducts: the parts of a product are those of both.
func TestSplitOfProducts(t *testing.T) {
	list := groups(t, 12)
	for _, g := range list {
		for _, h := range list {
			if g.N == 1 || h.N == 1 || g.N*h.N > api.MaxSmall {
				continue
			}
			product := times(t, g, h)
			var both [][]int
			for _, l := range split(g).lists {
				both = append(both, counted(len(l), func(i int) int { return l[i]*h.N + oneIn(h) }))
			}
			for _, l := range split(h).lists {
				both = append(both, counted(len(l), func(i int) int { return oneIn(g)*h.N + l[i] }))
			}
			same(t, fmt.Sprint("of ", g, " and ", h), sameParts(t, product, product, split(product).lists, ordered(both)), true)
		}
	}
}

// TestOrderIsThatOfAll: what Complements tells stands as in sub.All.
func TestOrderIsThatOfAll(t *testing.T) {
	for _, g := range called(groups(t, 16)) {
		all, f := sub.All(g)
		same(t, "fault", f, api.Fault{})
		for _, l := range normalsOf(g) {
			last := -1
			for _, m := range complements(g, l).lists {
				at := slices.IndexFunc(all, func(k []int) bool { return slices.Equal(k, m) })
				same(t, fmt.Sprint(m, " stands behind"), at > last, true)
				last = at
			}
		}
	}
}

// TestAnswersAreNew: what is done to an answer touches neither what was handed
// in nor another list of it, nor later answers.
func TestAnswersAreNew(t *testing.T) {
	two := given(t, table.Cyclic, 2)
	for _, g := range []api.Group{given(t, table.Dihedral, 6), shuffled(given(t, table.Cyclic, 6)), given(t, table.Cyclic, 1), times(t, two, two, two)} {
		for _, l := range normalsOf(g) {
			act := [][]int{first(g.N), first(g.N)}
			before := fmt.Sprint(g, two, l, act)
			lists := func() [][]int {
				return slices.Concat([][]int{semi(g, two, act).g.Mul}, complements(g, l).lists, split(g).lists)
			}
			answers := lists()
			asked := fmt.Sprint(answers)
			for i, list := range answers {
				rest := fmt.Sprint(answers[i+1:])
				for k := range list[:cap(list)] {
					list[:cap(list)][k] = -9
				}
				same(t, "apart", answers[i+1:], rest)
			}
			same(t, "again", lists(), asked)
			same(t, "handed in", fmt.Sprint(g, two, l, act), before)
		}
	}
}

// TestAlwaysTheSame: what hangs on the arguments alone is told each time.
func TestAlwaysTheSame(t *testing.T) {
	g := times(t, given(t, table.Dihedral, 3), given(t, table.Cyclic, 2), given(t, table.Cyclic, 2))
	for _, l := range normalsOf(g) {
		asked := fmt.Sprint(complements(g, l))
		for range 10 {
			same(t, fmt.Sprint("complements of ", l), complements(g, l), asked)
		}
	}
}
