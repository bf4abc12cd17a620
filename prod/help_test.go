package prod_test

import (
	"cmp"
	"fmt"
	"slices"
	"testing"

	"cayley/api"
	"cayley/hom"
	"cayley/prod"
	"cayley/table"
)

func fault(code, at int) api.Fault { return api.Fault{Code: code, At: at} }

// same holds two answers against each other; an empty list is a nil list.
func same(t *testing.T, what string, got, want any) {
	t.Helper()
	if fmt.Sprint(got) != fmt.Sprint(want) {
		t.Errorf("%s: %v, want %v", what, got, want)
	}
}

// answer is what a call answers; what it does not answer is empty.
type answer struct {
	g     api.Group
	lists [][]int
	is    bool
	f     api.Fault
}

func toldGroup(g api.Group, f api.Fault) answer { return answer{g: g, f: f} }

func toldLists(lists [][]int, f api.Fault) answer { return answer{lists: lists, f: f} }

func toldIs(is bool, f api.Fault) answer { return answer{is: is, f: f} }

// refused is the answer that has this fault, and nothing beside it.
func refused(f api.Fault) answer { return answer{f: f} }

func semi(n, h api.Group, act [][]int) answer { return toldGroup(prod.Semi(n, h, act)) }

func complements(g api.Group, l []int) answer { return toldLists(prod.Complements(g, l)) }

func direct(g api.Group, l, m []int) answer { return toldIs(prod.Direct(g, l, m)) }

func split(g api.Group) answer { return toldLists(prod.Split(g)) }

// given makes a group, or ends the test.
func given(t *testing.T, make func(n int) (api.Group, api.Fault), n int) api.Group {
	t.Helper()
	g, f := make(n)
	if f != (api.Fault{}) {
		t.Fatalf("of %d: %v", n, f)
	}
	return g
}

// perms is the group that permutations make.
func perms(t *testing.T, makers ...[]int) api.Group {
	t.Helper()
	g, _, f := table.Perms(makers)
	same(t, "fault", f, api.Fault{})
	return g
}

func evenOfFour(t *testing.T) api.Group {
	t.Helper()
	return perms(t, []int{1, 2, 0, 3}, []int{1, 0, 3, 2})
}

func allOfFour(t *testing.T) api.Group {
	t.Helper()
	return perms(t, []int{1, 0, 2, 3}, []int{1, 2, 3, 0})
}

func evenOfFive(t *testing.T) api.Group {
	t.Helper()
	return perms(t, []int{1, 2, 3, 4, 0}, []int{1, 2, 0, 3, 4})
}

// times is the product of some groups.
func times(t *testing.T, first api.Group, others ...api.Group) api.Group {
	t.Helper()
	for _, g := range others {
		var f api.Fault
		first, f = table.Product(first, g)
		same(t, "fault", f, api.Fault{})
	}
	return first
}

// counted has each x below n as to(x).
func counted(n int, to func(x int) int) []int {
	p := make([]int, n)
	for x := range p {
		p[x] = to(x)
	}
	return p
}

// first has the numbers below n.
func first(n int) []int { return counted(n, func(x int) int { return x }) }

// renamed calls each thing a of g by the number name(a).
func renamed(g api.Group, name func(a int) int) api.Group {
	out := api.Group{N: g.N, Mul: make([]int, g.N*g.N)}
	for a := range g.N {
		for b := range g.N {
			out.Mul[name(a)*g.N+name(b)] = name(of(g, a, b))
		}
	}
	return out
}

// shuffled calls the things of g by other numbers, so that the one is not 0.
func shuffled(g api.Group) api.Group {
	return renamed(g, func(a int) int { return (g.N + 1 - a) % g.N })
}

// strewn calls them by other numbers in a less plain way.
func strewn(g api.Group) api.Group {
	step := 7
	for ; gcd(step, g.N) > 1; step++ {
	}
	return renamed(g, func(a int) int { return (step*a + g.N/2) % g.N })
}

func gcd(a, b int) int {
	for b > 0 {
		a, b = b, a%b
	}
	return a
}

// groups are all groups of up to most things, at most 24, each once, whatever
// its things are called: all are what Cyclic and Dicyclic make, or semidirect
// products of smaller ones and cyclic ones. How many there are is known.
func groups(t *testing.T, most int) []api.Group {
	t.Helper()
	counts := []int{0, 1, 1, 1, 2, 1, 2, 1, 5, 2, 2, 1, 5, 1, 2, 1, 14, 1, 5, 1, 5, 2, 2, 1, 15}
	var out []api.Group
	for n := 1; n <= most; n++ {
		found := []api.Group{given(t, table.Cyclic, n)}
		if n%4 == 0 {
			found = append(found, given(t, table.Dicyclic, n/4))
		}
		for _, g := range out {
			if n%g.N == 0 && n > g.N {
				found = append(found, turnedBy(t, g, n/g.N)...)
			}
		}
		kinds := apart(found)
		if len(kinds) != counts[n] {
			t.Fatalf("%d groups of %d things", len(kinds), n)
		}
		out = append(out, kinds...)
	}
	return out
}

// turnedBy has the semidirect products of g and a cyclic group of n things.
func turnedBy(t *testing.T, g api.Group, n int) []api.Group {
	t.Helper()
	autos, f := hom.Autos(g)
	same(t, "fault", f, api.Fault{})
	var out []api.Group
	for _, m := range autos {
		act := [][]int{first(g.N)}
		for range n {
			act = append(act, behind(act[len(act)-1], m))
		}
		if slices.Equal(act[n], first(g.N)) {
			product, f := prod.Semi(g, given(t, table.Cyclic, n), act[:n])
			same(t, "fault", f, api.Fault{})
			out = append(out, product)
		}
	}
	return out
}

// apart has of groups of as many things each kind once.
func apart(list []api.Group) []api.Group {
	var out []api.Group
	for _, g := range list {
		if !slices.ContainsFunc(out, func(h api.Group) bool { return isomorphic(g, h) }) {
			out = append(out, g)
		}
	}
	return out
}

func isomorphic(g, h api.Group) bool {
	_, f := hom.Iso(g, h)
	return f.Code == api.OK
}

// called has each group twice: as it is, and with other numbers for its things.
func called(list []api.Group) []api.Group {
	var out []api.Group
	for i, g := range list {
		if i%2 == 0 {
			out = append(out, g, shuffled(g))
		} else {
			out = append(out, g, strewn(g))
		}
	}
	return out
}

// What follows tells the chapter's words again, without the program.

func of(g api.Group, a, b int) int { return g.Mul[a*g.N+b] }

func oneIn(g api.Group) int {
	for e := range g.N {
		if of(g, e, e) == e {
			return e
		}
	}
	return -1
}

// behind is what l does to each number first, and then m.
func behind(l, m []int) []int {
	return counted(len(l), func(x int) int { return m[l[x]] })
}

// grownIn takes products until there are no new ones.
func grownIn(g api.Group, l []int) []int {
	out := []int{oneIn(g)}
	for at := 0; at < len(out); at++ {
		for _, a := range l {
			if c := of(g, out[at], a); !slices.Contains(out, c) {
				out = append(out, c)
			}
		}
	}
	slices.Sort(out)
	return out
}

func isSubgroup(g api.Group, l []int) bool {
	if !slices.Contains(l, oneIn(g)) {
		return false
	}
	for _, a := range l {
		for _, b := range l {
			if !slices.Contains(l, of(g, a, b)) {
				return false
			}
		}
	}
	return true
}

// subgroupsOf are all subgroups, those with fewer things first: each is made by
// one that is less and a thing.
func subgroupsOf(g api.Group) [][]int {
	out := [][]int{{oneIn(g)}}
	seen := map[string]bool{fmt.Sprint(out[0]): true}
	for at := 0; at < len(out); at++ {
		for a := range g.N {
			if slices.Contains(out[at], a) {
				continue
			}
			l := grownIn(g, append(slices.Clone(out[at]), a))
			if text := fmt.Sprint(l); !seen[text] {
				seen[text] = true
				out = append(out, l)
			}
		}
	}
	return ordered(out)
}

// ordered has those with fewer things first, of as many the one that is less
// where they differ first.
func ordered(lists [][]int) [][]int {
	return slices.SortedFunc(slices.Values(lists), func(l, m []int) int {
		return cmp.Or(len(l)-len(m), slices.Compare(l, m))
	})
}

// isNormal: is l a always a l?
func isNormal(g api.Group, l []int) bool {
	for a := range g.N {
		left := counted(len(l), func(i int) int { return of(g, a, l[i]) })
		for _, x := range l {
			if !slices.Contains(left, of(g, x, a)) {
				return false
			}
		}
	}
	return true
}

func normalsOf(g api.Group) [][]int {
	return slices.DeleteFunc(subgroupsOf(g), func(l []int) bool { return !isNormal(g, l) })
}

// common has what two sets both have.
func common(l, m []int) []int {
	return slices.DeleteFunc(slices.Clone(l), func(a int) bool { return !slices.Contains(m, a) })
}

// completeIn: have l and m the one alone, and do they make whole?
func completeIn(g api.Group, l, m, whole []int) bool {
	return slices.Equal(common(l, m), []int{oneIn(g)}) && slices.Equal(grownIn(g, slices.Concat(l, m)), whole)
}

// directIn: is whole the direct product of l and m?
func directIn(g api.Group, l, m, whole []int) bool {
	for _, a := range l {
		for _, b := range m {
			if of(g, a, b) != of(g, b, a) {
				return false
			}
		}
	}
	return completeIn(g, l, m, whole)
}

// halvesOf are all two smaller subgroups of which whole is the direct product.
func halvesOf(g api.Group, subgroups [][]int, whole []int) [][2][]int {
	var out [][2][]int
	for _, l := range subgroups {
		for _, m := range subgroups {
			if len(l) < len(whole) && len(l)*len(m) == len(whole) && len(m) < len(whole) && directIn(g, l, m, whole) {
				out = append(out, [2][]int{l, m})
			}
		}
	}
	return out
}

// splitsOf are all ways to split whole, in the order that the chapter tells,
// some of them more than once.
func splitsOf(g api.Group, subgroups [][]int, whole []int) [][][]int {
	halves := halvesOf(g, subgroups, whole)
	if len(halves) == 0 {
		return [][][]int{{whole}}
	}
	var out [][][]int
	for _, pair := range halves {
		for _, l := range splitsOf(g, subgroups, pair[0]) {
			for _, m := range splitsOf(g, subgroups, pair[1]) {
				out = append(out, ordered(slices.Concat(l, m)))
			}
		}
	}
	return out
}

// complementsOf is what Complements must answer of a normal subgroup.
func complementsOf(g api.Group, subgroups [][]int, l []int) [][]int {
	return slices.DeleteFunc(slices.Clone(subgroups), func(m []int) bool { return !completeIn(g, l, m, first(g.N)) })
}

// wanted is what must be told of a list as a subgroup, word by word.
func wanted(g api.Group, l []int) api.Fault {
	if len(l) > g.N {
		return fault(api.ErrMany, 0)
	}
	for i := range l {
		if l[i] < 0 || l[i] > g.N-1 {
			return fault(api.ErrRange, i)
		}
		if i > 0 && !(l[i] > l[i-1]) {
			return fault(api.ErrForm, i)
		}
	}
	if !isSubgroup(g, l) {
		return fault(api.ErrFalse, 0)
	}
	return api.Fault{}
}

// wantedOfEntry is the code that must be told of an entry of act.
func wantedOfEntry(n api.Group, m []int) int {
	if len(m) != n.N {
		return api.ErrSize
	}
	if slices.ContainsFunc(m, func(x int) bool { return x < 0 || x >= n.N }) {
		return api.ErrRange
	}
	for at, c := range n.Mul {
		if m[c] != of(n, m[at/n.N], m[at%n.N]) {
			return api.ErrFalse
		}
	}
	if !slices.Equal(slices.Sorted(slices.Values(m)), first(n.N)) {
		return api.ErrTwice
	}
	return api.OK
}

// semiOf is what Semi must answer of groups without faults, word by word.
func semiOf(n, h api.Group, act [][]int) answer {
	if len(act) != h.N {
		return refused(fault(api.ErrSize, 0))
	}
	for i, m := range act {
		if code := wantedOfEntry(n, m); code != api.OK {
			return refused(fault(code, i))
		}
	}
	for a := range h.N {
		for b := range h.N {
			if !slices.Equal(act[of(h, a, b)], behind(act[b], act[a])) {
				return refused(fault(api.ErrFalse, a))
			}
		}
	}
	if n.N*h.N > 60 {
		return refused(fault(api.ErrMuch, 0))
	}
	g := api.Group{N: n.N * h.N, Mul: make([]int, n.N*h.N*n.N*h.N)}
	for x := range n.N {
		for a := range h.N {
			for y := range n.N {
				for b := range h.N {
					place := (x*h.N+a)*g.N + y*h.N + b
					g.Mul[place] = of(n, x, act[a][y])*h.N + of(h, a, b)
				}
			}
		}
	}
	return answer{g: g}
}
