package sub_test

import (
	"fmt"
	"slices"
	"testing"

	"cayley/api"
	"cayley/sub"
	"cayley/table"
)

func TestExamples(t *testing.T) {
	six, f := sub.All(perms(t, []int{1, 0, 2}, []int{1, 2, 0}))
	same(t, "fault", f, api.Fault{})
	same(t, "subgroups of the group of six", len(six), 6)
	same(t, "Centre of Dihedral(4)", told(sub.Centre(given(t, table.Dihedral, 4))), right("[0 2]"))
}

// TestMade: what is made is a subgroup, has the set, and is in each subgroup that has it.
func TestMade(t *testing.T) {
	for _, g := range append(smallGroups(t), greatGroups(t)...) {
		for _, l := range someSets(g) {
			made, f := sub.Made(g, l)
			same(t, "fault", f, api.Fault{})
			same(t, fmt.Sprint("made by ", l), made, grown(g, l))
			same(t, "subgroup", isSubgroup(g, made), true)
			same(t, "Is", told(sub.Is(g, made)), right(true))
			same(t, "Lagrange", g.N%len(made), 0)
		}
		same(t, "made by nothing", told(sub.Made(g, nil)), right([]int{oneIn(g)}))
	}
	square := given(t, table.Dihedral, 4)
	same(t, "a turn", told(sub.Made(square, []int{1})), right("[0 1 2 3]"))
	same(t, "a mirror", told(sub.Made(square, []int{5})), right("[0 5]"))
	same(t, "a turn and a mirror", told(sub.Made(square, []int{3, 6})), right("[0 1 2 3 4 5 6 7]"))
}

func TestIs(t *testing.T) {
	square := given(t, table.Dihedral, 4)
	for _, l := range [][]int{{0}, {0, 2}, {0, 4}, {0, 1, 2, 3}, {0, 2, 5, 7}, {0, 1, 2, 3, 4, 5, 6, 7}} {
		same(t, fmt.Sprint(l), told(sub.Is(square, l)), right(true))
	}
	for _, l := range [][]int{nil, {}, {2}, {4}, {0, 1}, {1, 2, 3}, {0, 4, 5}, {0, 1, 2, 3, 4}} {
		same(t, fmt.Sprint(l), told(sub.Is(square, l)), right(false))
	}
}

// subgroupsBySets are all subgroups of a group of at most 16 things: each set is asked.
func subgroupsBySets(g api.Group) [][]int {
	var out [][]int
	for bits := range 1 << g.N {
		if bits>>oneIn(g)&1 == 1 {
			if l := listOf(bits); isSubgroup(g, l) {
				out = append(out, l)
			}
		}
	}
	return out
}

// subgroupsByMakers are all subgroups of a group of at most 31 things: four
// things make each, as each that is needed at least doubles what is made.
func subgroupsByMakers(g api.Group) [][]int {
	var out [][]int
	last := [][]int{grown(g, nil)}
	for range 5 {
		out = append(out, last...)
		var next [][]int
		for _, l := range last {
			for a := range g.N {
				if !slices.Contains(l, a) {
					next = append(next, grown(g, append(slices.Clone(l), a)))
				}
			}
		}
		slices.SortFunc(next, slices.Compare)
		last = slices.CompactFunc(next, slices.Equal)
	}
	slices.SortFunc(out, slices.Compare)
	return slices.CompactFunc(out, slices.Equal)
}

// wantedAll are all subgroups in the order of the chapter.
func wantedAll(g api.Group) [][]int {
	var all [][]int
	if g.N <= 12 {
		all = subgroupsBySets(g)
	} else {
		all = subgroupsByMakers(g)
	}
	slices.SortFunc(all, func(l, m []int) int {
		if len(l) != len(m) {
			return len(l) - len(m)
		}
		for i := range l {
			if l[i] != m[i] {
				return l[i] - m[i]
			}
		}
		return 0
	})
	return all
}

func TestAll(t *testing.T) {
	for _, g := range smallGroups(t) {
		all, f := sub.All(g)
		same(t, "fault", f, api.Fault{})
		same(t, fmt.Sprint("all of ", g.N), all, wantedAll(g))
		for _, l := range all {
			same(t, "Lagrange", g.N%len(l), 0)
		}
	}
}

func TestAllThatAreKnown(t *testing.T) {
	two, six := given(t, table.Cyclic, 2), given(t, table.Dihedral, 3)
	same(t, "one", told(sub.All(given(t, table.Cyclic, 1))), right("[[0]]"))
	same(t, "Cyclic(6)", told(sub.All(given(t, table.Cyclic, 6))), right("[[0] [0 3] [0 2 4] [0 1 2 3 4 5]]"))
	same(t, "Dihedral(3)", told(sub.All(six)), right("[[0] [0 3] [0 4] [0 5] [0 1 2] [0 1 2 3 4 5]]"))
	same(t, "the one is 1", told(sub.All(api.Group{N: 2, Mul: []int{1, 0, 0, 1}})), right("[[1] [0 1]]"))
	known := []struct {
		g     api.Group
		count int
	}{
		{given(t, table.Cyclic, 23), 2}, {given(t, table.Cyclic, 24), 8}, {given(t, table.Dihedral, 12), 34},
		{given(t, table.Dicyclic, 2), 6}, {given(t, table.Dicyclic, 6), 18}, {alternating(t), 10}, {symmetric(t), 30},
		{pairs(t, two, two, two), 16}, {pairs(t, two, two, two, two), 67}, {pairs(t, two, two, six), 54},
	}
	for _, k := range known {
		for _, g := range []api.Group{k.g, shuffled(k.g)} {
			all, f := sub.All(g)
			same(t, "fault", f, api.Fault{})
			same(t, fmt.Sprint("how many of ", g.N), len(all), k.count)
		}
	}
}

func TestCentral(t *testing.T) {
	for _, g := range append(smallGroups(t), greatGroups(t)...) {
		commute := func(l []int) []int {
			return those(g, func(a int) bool {
				return !slices.ContainsFunc(l, func(x int) bool { return of(g, a, x) != of(g, x, a) })
			})
		}
		for _, l := range someSets(g) {
			same(t, fmt.Sprint("central to ", l), told(sub.Central(g, l)), right(commute(l)))
		}
		all := commute(nil)
		same(t, "how many commute with nothing", len(all), g.N)
		same(t, "centre", told(sub.Centre(g)), right(commute(all)))
	}
	square := given(t, table.Dihedral, 4)
	same(t, "turns", told(sub.Central(square, []int{1})), right("[0 1 2 3]"))
	same(t, "mirrors", told(sub.Central(square, []int{4, 5})), right("[0 2]"))
	same(t, "centre of Dihedral(3)", told(sub.Centre(given(t, table.Dihedral, 3))), right("[0]"))
}

func TestConjugatedSubgroups(t *testing.T) {
	for _, g := range append(smallGroups(t), greatGroups(t)...) {
		for _, l := range someSubgroups(g) {
			keeps := those(g, func(a int) bool { return slices.Equal(conjugatedIn(g, l, a), l) })
			same(t, fmt.Sprint("normaliser of ", l), told(sub.Normaliser(g, l)), right(keeps))
			same(t, fmt.Sprint("normal ", l), told(sub.Normal(g, l)), right(len(keeps) == g.N))
			core := slices.Clone(l)
			for a := range g.N {
				conjugated := conjugatedIn(g, l, a)
				core = slices.DeleteFunc(core, func(x int) bool { return !slices.Contains(conjugated, x) })
			}
			same(t, fmt.Sprint("core of ", l), told(sub.Core(g, l)), right(core))
		}
	}
	four := symmetric(t) // rising: 0 1 3 2 is the thing 1, 0 2 1 3 the thing 2
	pair, _ := sub.Made(four, []int{1})
	same(t, "a swap", pair, "[0 1]")
	keeps, _ := sub.Normaliser(four, pair)
	same(t, "its normaliser", len(keeps), 4)
	eight, _ := sub.Made(four, []int{1, 16}) // 16: 2 3 0 1
	same(t, "what a swap and a double swap make", len(eight), 8)
	same(t, "is not normal", told(sub.Normal(four, eight)), right(false))
	same(t, "its core", told(sub.Core(four, eight)), right("[0 7 16 23]"))
	same(t, "that is normal", told(sub.Normal(four, []int{0, 7, 16, 23})), right(true))
}

// TestClosure: it is normal, has the set, and is in each subgroup that is and has it.
func TestClosure(t *testing.T) {
	normalIn := func(g api.Group, l []int) bool {
		return !slices.ContainsFunc(those(g, func(a int) bool { return true }), func(a int) bool {
			return !slices.Equal(conjugatedIn(g, l, a), l)
		})
	}
	for _, g := range smallGroups(t) {
		normal := slices.DeleteFunc(wantedAll(g), func(l []int) bool { return !normalIn(g, l) })
		for _, l := range someSets(g) {
			// Those with fewer things stand first, and what two have in common is normal too.
			first := slices.IndexFunc(normal, func(m []int) bool { return hasAll(m, l) })
			same(t, fmt.Sprint("closure of ", l), told(sub.Closure(g, l)), right(normal[first]))
		}
	}
	for _, g := range greatGroups(t) {
		for _, l := range someSets(g) {
			want := grown(g, l)
			for !normalIn(g, want) {
				for a := range g.N {
					want = append(want, conjugatedIn(g, want, a)...)
					want = risen(want)
				}
				want = grown(g, want)
			}
			same(t, fmt.Sprint("closure of ", l), told(sub.Closure(g, l)), right(want))
		}
	}
}

func TestComm(t *testing.T) {
	for _, g := range append(smallGroups(t), greatGroups(t)...) {
		sets := someSets(g)
		for i, l := range sets {
			m := sets[(3*i+1)%len(sets)]
			var commutators []int
			for _, a := range l {
				for _, b := range m {
					commutators = append(commutators, commutatorIn(g, a, b))
				}
			}
			same(t, fmt.Sprint("commutators of ", l, m), told(sub.Comm(g, l, m)), right(grown(g, commutators)))
		}
	}
	square := given(t, table.Dihedral, 4)
	same(t, "nothing", told(sub.Comm(square, nil, []int{1, 4})), right("[0]"))
	same(t, "of all", told(sub.Comm(square, []int{0, 1, 2, 3, 4, 5, 6, 7}, []int{0, 1, 2, 3, 4, 5, 6, 7})), right("[0 2]"))
	three := perms(t, []int{1, 0, 2}, []int{1, 2, 0})
	same(t, "of two swaps", told(sub.Comm(three, []int{1}, []int{2})), right("[0 3 4]"))
}

// TestFrattini by the chapter's words, and by what follows: it is what no set needs to make the group.
func TestFrattini(t *testing.T) {
	for _, g := range smallGroups(t) {
		all := wantedAll(g)
		proper := all[:len(all)-1]
		greatest := slices.Clone(proper)
		greatest = slices.DeleteFunc(greatest, func(l []int) bool {
			return slices.ContainsFunc(proper, func(m []int) bool { return len(m) > len(l) && hasAll(m, l) })
		})
		want := those(g, func(a int) bool {
			return !slices.ContainsFunc(greatest, func(l []int) bool { return !slices.Contains(l, a) })
		})
		same(t, fmt.Sprint("Frattini of ", g.N), told(sub.Frattini(g)), right(want))
		unneeded := those(g, func(a int) bool {
			return !slices.ContainsFunc(proper, func(l []int) bool {
				return len(grown(g, append(slices.Clone(l), a))) == g.N
			})
		})
		same(t, fmt.Sprint("what no set of ", g.N, " needs"), told(sub.Frattini(g)), right(unneeded))
	}
}

func TestFrattiniThatIsKnown(t *testing.T) {
	two := given(t, table.Cyclic, 2)
	known := []struct {
		g    api.Group
		want string
	}{
		{given(t, table.Cyclic, 1), "[0]"}, {two, "[0]"}, {given(t, table.Cyclic, 4), "[0 2]"},
		{given(t, table.Cyclic, 12), "[0 6]"}, {given(t, table.Cyclic, 16), "[0 2 4 6 8 10 12 14]"},
		{given(t, table.Cyclic, 24), "[0 6 12 18]"}, {given(t, table.Dihedral, 3), "[0]"},
		{given(t, table.Dihedral, 8), "[0 2 4 6]"}, {given(t, table.Dicyclic, 2), "[0 2]"},
		{symmetric(t), "[0]"}, {pairs(t, two, two, two, two), "[0]"},
		{api.Group{N: 1, Mul: []int{0}}, "[0]"}, {api.Group{N: 2, Mul: []int{1, 0, 0, 1}}, "[1]"},
	}
	for _, k := range known {
		same(t, fmt.Sprint(k.g.N), told(sub.Frattini(k.g)), right(k.want))
	}
}

// TestAnswersAreNew: what is done to an answer touches neither what was handed in nor another answer.
func TestAnswersAreNew(t *testing.T) {
	for _, g := range smallGroups(t) {
		all := those(g, func(a int) bool { return true })
		before := fmt.Sprint(g, all)
		lists := func() [][]int {
			out, _ := sub.All(g)
			for _, call := range []func(g api.Group, l []int) ([]int, api.Fault){
				sub.Made, sub.Central, sub.Normaliser, sub.Core, sub.Closure,
				func(g api.Group, l []int) ([]int, api.Fault) { return sub.Comm(g, l, l) },
				func(g api.Group, l []int) ([]int, api.Fault) { return sub.Centre(g) },
				func(g api.Group, l []int) ([]int, api.Fault) { return sub.Frattini(g) },
			} {
				l, _ := call(g, all)
				out = append(out, l)
			}
			return out
		}
		answers := lists()
		first := fmt.Sprint(answers)
		for i, l := range answers {
			behind := fmt.Sprint(answers[i+1:])
			for k := range l[:cap(l)] {
				l[:cap(l)][k] = -9
			}
			same(t, "apart", answers[i+1:], behind)
		}
		same(t, "again", lists(), first)
		same(t, "handed in", fmt.Sprint(g, all), before)
	}
}
