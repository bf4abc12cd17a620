package table_test

import (
	"fmt"
	"math"
	"slices"
	"testing"

	"cayley/api"
	"cayley/perm"
	"cayley/table"
)

func TestCyclic(t *testing.T) {
	for n := 1; n <= 60; n++ {
		g := given(t, table.Cyclic, n)
		same(t, "group", table.Check(g), api.Fault{})
		same(t, "size", g.N, n)
		for a := range n {
			for b := range n {
				same(t, fmt.Sprint(a, b, " of ", n), of(g, a, b), (a+b)%n)
			}
		}
	}
	same(t, "two", told(table.Cyclic(2)), right("{2 [0 1 1 0]}"))
	same(t, "one", told(table.Cyclic(1)), right("{1 [0]}"))
}

// TestDihedral reads each thing as r^i s^j and asks for the laws that the document names.
func TestDihedral(t *testing.T) {
	for n := 1; n <= 30; n++ {
		g := given(t, table.Dihedral, n)
		same(t, "group", table.Check(g), api.Fault{})
		same(t, "size", g.N, 2*n)
		same(t, "one", oneIn(g), 0)
		r, s := 1%n, n
		for i := range n {
			same(t, "r^i", told(table.Pow(g, r, i)), right(i))
			same(t, "r^i s", of(g, i, s), n+i)
		}
		back, _ := table.Inv(g, r)
		same(t, "r^n", told(table.Pow(g, r, n)), right(0))
		same(t, "s s", of(g, s, s), 0)
		same(t, "s r", of(g, s, r), of(g, back, s))
	}
}

func TestDicyclic(t *testing.T) {
	for n := 1; n <= 15; n++ {
		g := given(t, table.Dicyclic, n)
		same(t, "group", table.Check(g), api.Fault{})
		same(t, "size", g.N, 4*n)
		same(t, "one", oneIn(g), 0)
		a, x := 1, 2*n
		for i := range 2 * n {
			same(t, "a^i", told(table.Pow(g, a, i)), right(i))
			same(t, "a^i x", of(g, i, x), 2*n+i)
		}
		back, _ := table.Inv(g, a)
		same(t, "a^(2 n)", told(table.Pow(g, a, 2*n)), right(0))
		same(t, "x x", of(g, x, x), n)
		same(t, "x a", of(g, x, a), of(g, back, x))
	}
}

func TestMakersTakeNoOtherNumbers(t *testing.T) {
	makers := []struct {
		make func(n int) (api.Group, api.Fault)
		last int
	}{{table.Cyclic, 60}, {table.Dihedral, 30}, {table.Dicyclic, 15}}
	for _, m := range makers {
		_, f := m.make(m.last)
		same(t, "last", f, api.Fault{})
		for _, n := range []int{0, -1, m.last + 1, math.MaxInt, math.MinInt, 1 << 33} {
			same(t, fmt.Sprint(n), told(m.make(n)), answer{"{0 []}", fault(api.ErrRange, 0)})
		}
	}
}

func TestProduct(t *testing.T) {
	list := someGroups(t)
	for _, g := range list {
		for _, h := range list {
			p, f := table.Product(g, h)
			if g.N*h.N > 60 {
				same(t, "much", told(p, f), answer{"{0 []}", fault(api.ErrMuch, 0)})
				continue
			}
			same(t, "fault", f, api.Fault{})
			same(t, "size", p.N, g.N*h.N)
			same(t, "group", table.Check(p), api.Fault{})
			for x := range p.N {
				for y := range p.N {
					want := of(g, x/h.N, y/h.N)*h.N + of(h, x%h.N, y%h.N)
					if of(p, x, y) != want {
						t.Errorf("%d x %d: %d by %d: %d, want %d", g.N, h.N, x, y, of(p, x, y), want)
					}
				}
			}
		}
	}
}

func TestProductAtItsLimit(t *testing.T) {
	for _, c := range []struct{ a, b, much int }{{60, 1, 0}, {1, 60, 0}, {6, 10, 0}, {61 / 2, 2, 0}, {31, 2, 1}, {60, 2, 1}, {60, 60, 1}, {8, 8, 1}} {
		p, f := table.Product(given(t, table.Cyclic, c.a), given(t, table.Cyclic, c.b))
		if c.much == 0 {
			same(t, "size", p.N, c.a*c.b)
			same(t, "fault", f, api.Fault{})
			continue
		}
		same(t, "much", told(p, f), answer{"{0 []}", fault(api.ErrMuch, 0)})
	}
}

// shiftedPoints are as p moves, on points behind ones that stay.
func shiftedPoints(p []int, stay int) []int {
	out := []int{}
	for i := range stay {
		out = append(out, i)
	}
	for _, x := range p {
		out = append(out, x+stay)
	}
	return out
}

func TestPerms(t *testing.T) {
	cases := []struct {
		name string
		l    [][]int
		size int
	}{
		{"no points", [][]int{{}}, 1},
		{"no points twice", [][]int{nil, {}}, 1},
		{"one point", [][]int{{0}}, 1},
		{"stays", [][]int{{0, 1, 2}}, 1},
		{"swap", [][]int{{1, 0}}, 2},
		{"same twice", [][]int{{1, 0}, {1, 0}, {0, 1}}, 2},
		{"triangle", [][]int{{1, 0, 2}, {1, 2, 0}}, 6},
		{"cycle of 7", [][]int{{1, 2, 3, 4, 5, 6, 0}}, 7},
		{"even ones of four", [][]int{{1, 2, 0, 3}, {0, 2, 3, 1}}, 12},
		{"all of four", [][]int{{1, 2, 3, 0}, {1, 0, 2, 3}}, 24},
		{"even ones of five", [][]int{{1, 2, 3, 4, 0}, {1, 2, 0, 3, 4}}, 60},
		{"cycles of 3, 4 and 5", [][]int{{1, 2, 0, 4, 5, 6, 3, 8, 9, 10, 11, 7}}, 60},
		{"1000 points", [][]int{shiftedPoints([]int{1, 2, 3, 4, 0}, 995), shiftedPoints([]int{1, 2, 0, 3, 4}, 995)}, 60},
	}
	for _, c := range cases {
		g, things, f := table.Perms(c.l)
		same(t, c.name, f, api.Fault{})
		same(t, c.name, g.N, c.size)
		same(t, c.name, len(things), c.size)
		same(t, c.name, table.Check(g), api.Fault{})
		holdTogether(t, c.name, g, things)
		for _, p := range c.l {
			same(t, c.name+" has what makes it", slices.ContainsFunc(things, func(q []int) bool { return slices.Equal(p, q) }), true)
		}
	}
}

// holdTogether: do the things rise, and are their products the table's?
func holdTogether(t *testing.T, name string, g api.Group, things [][]int) {
	t.Helper()
	for a, p := range things {
		if a > 0 && slices.Compare(things[a-1], p) >= 0 {
			t.Errorf("%s: %d does not rise", name, a)
		}
		for b, q := range things {
			m, _ := perm.Mul(p, q)
			if !slices.Equal(m, things[of(g, a, b)]) {
				t.Errorf("%s: product of %d and %d", name, a, b)
			}
		}
	}
}

func TestPermsThatAreKnown(t *testing.T) {
	g, things, f := table.Perms([][]int{{1, 2, 0}, {1, 0, 2}})
	same(t, "fault", f, api.Fault{})
	same(t, "things", things, "[[0 1 2] [0 2 1] [1 0 2] [1 2 0] [2 0 1] [2 1 0]]")
	same(t, "swap first", of(g, 2, 3), 5)
	same(t, "cycle first", of(g, 3, 2), 1)
	_, things, _ = table.Perms([][]int{{1, 0}})
	same(t, "what stays is a thing", things, "[[0 1] [1 0]]")
}

// cycleOf has one cycle of n points.
func cycleOf(n int) []int {
	out := []int{}
	for i := range n {
		out = append(out, (i+1)%n)
	}
	return out
}

func TestPermsTellTheFirstFault(t *testing.T) {
	swap, stay, long := []int{1, 0}, []int{0, 1}, make([]int, 1001)
	many := func(n int, p []int) [][]int { return slices.Repeat([][]int{p}, n) }
	cases := []struct {
		name string
		l    [][]int
		want api.Fault
	}{
		{"none", nil, fault(api.ErrMany, 0)},
		{"none", [][]int{}, fault(api.ErrMany, 0)},
		{"21", many(21, swap), fault(api.ErrMany, 0)},
		{"21 wrong ones", many(21, []int{7}), fault(api.ErrMany, 0)},
		{"range", [][]int{{2, 0}}, fault(api.ErrRange, 0)},
		{"range", [][]int{stay, swap, {0, -1}}, fault(api.ErrRange, 2)},
		{"range, not at its place", [][]int{{0, 1, 2, 3, 9}}, fault(api.ErrRange, 0)},
		{"twice", [][]int{swap, {0, 0}, {5}}, fault(api.ErrTwice, 1)},
		{"long", [][]int{swap, long}, fault(api.ErrMany, 1)},
		{"size", [][]int{swap, {0}}, fault(api.ErrSize, 1)},
		{"size", [][]int{{}, swap}, fault(api.ErrSize, 1)},
		{"size", [][]int{swap, nil}, fault(api.ErrSize, 1)},
		{"size", append(many(19, swap), []int{0, 1, 2}), fault(api.ErrSize, 19)},
		{"size ahead of what is wrong later", [][]int{swap, {0}, {7}}, fault(api.ErrSize, 1)},
		{"wrong ahead of size", [][]int{swap, {7}}, fault(api.ErrRange, 1)},
		{"size ahead of much", [][]int{cycleOf(61), swap}, fault(api.ErrSize, 1)},
		{"61", [][]int{cycleOf(61)}, fault(api.ErrMuch, 0)},
		{"1000", [][]int{cycleOf(1000)}, fault(api.ErrMuch, 0)},
		{"120", [][]int{{1, 2, 3, 4, 0}, {1, 0, 2, 3, 4}}, fault(api.ErrMuch, 0)},
	}
	for _, c := range cases {
		g, things, f := table.Perms(c.l)
		same(t, c.name, fmt.Sprintln(g, things, f), fmt.Sprintln(api.Group{}, [][]int{}, c.want))
	}
	_, _, f := table.Perms(many(20, cycleOf(60)))
	same(t, "as many as may be", f, api.Fault{})
}

// TestPermsOfManyThatAreMany: a group beyond all bounds is told of without being made.
func TestPermsOfManyThatAreMany(t *testing.T) {
	l := [][]int{}
	for i := range 20 {
		p := cycleOf(1000)
		p[i], p[i+1] = p[i+1], p[i]
		l = append(l, p)
	}
	_, _, f := table.Perms(l)
	same(t, "much", f, fault(api.ErrMuch, 0))
}

func TestPermsAreOnlyReadAndAnsweredNew(t *testing.T) {
	memory := []int{1, 0, 2, 77, 1, 2, 0, 78}
	l := [][]int{memory[0:3], memory[4:7]}
	g, things, _ := table.Perms(l)
	first := fmt.Sprint(g, things)
	apart(t, "things", things)
	spoil(g.Mul)
	same(t, "arguments", memory, "[1 0 2 77 1 2 0 78]")
	memory[3], memory[7] = 5, 6
	g, things, _ = table.Perms(l)
	same(t, "again", fmt.Sprint(g, things), first)
}

func TestMadeGroupsAreNew(t *testing.T) {
	three := given(t, table.Cyclic, 3)
	one := given(t, table.Cyclic, 1)
	makers := map[string]func() (api.Group, api.Fault){
		"Cyclic":      func() (api.Group, api.Fault) { return table.Cyclic(3) },
		"Dihedral":    func() (api.Group, api.Fault) { return table.Dihedral(3) },
		"Dicyclic":    func() (api.Group, api.Fault) { return table.Dicyclic(3) },
		"Product":     func() (api.Group, api.Fault) { return table.Product(three, three) },
		"Product 1":   func() (api.Group, api.Fault) { return table.Product(three, one) },
		"Product 1 3": func() (api.Group, api.Fault) { return table.Product(one, three) },
	}
	for name, call := range makers {
		g, _ := call()
		first := fmt.Sprint(g)
		spoil(g.Mul)
		same(t, name, told(call()), right(first))
	}
}

func TestExamplesOfTheChapter(t *testing.T) {
	count := map[int]int{}
	orders, _ := table.Orders(given(t, table.Dicyclic, 2))
	for _, order := range orders {
		count[order]++
	}
	same(t, "quaternions", count, map[int]int{1: 1, 2: 1, 4: 6})
	g, _, _ := table.Perms([][]int{{1, 0, 2}, {1, 2, 0}})
	same(t, "six things", g.N, 6)
}
