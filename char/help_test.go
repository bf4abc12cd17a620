package char_test

import (
	"fmt"
	"slices"
	"testing"

	"cayley/api"
	"cayley/char"
	"cayley/hom"
	"cayley/prod"
	"cayley/table"
)

func fault(code, at int) api.Fault { return api.Fault{Code: code, At: at} }

// same holds two answers against each other; an empty list is a nil list.
func same(t *testing.T, what string, got, want any) {
	t.Helper()
	if fmt.Sprint(got) != fmt.Sprint(want) {
		t.Errorf("%s: %v, want %v", what, got, want)
	}
}

// answer is what a call answers; what it does not answer is empty.
type answer struct {
	prime   int
	rows    [][]int
	degrees []int
	f       api.Fault
}

// refused is the answer that has this fault, and nothing beside it.
func refused(f api.Fault) answer { return answer{f: f} }

func characters(g api.Group) answer {
	prime, rows, f := char.Table(g)
	return answer{prime: prime, rows: rows, f: f}
}

func degrees(g api.Group) answer {
	list, f := char.Degrees(g)
	return answer{degrees: list, f: f}
}

// calls are all of the chapter, by their names.
func calls() map[string]func(g api.Group) answer {
	return map[string]func(g api.Group) answer{"Table": characters, "Degrees": degrees}
}

// given makes a group, or ends the test.
func given(t *testing.T, make func(n int) (api.Group, api.Fault), n int) api.Group {
	t.Helper()
	g, f := make(n)
	if f != (api.Fault{}) {
		t.Fatalf("of %d: %v", n, f)
	}
	return g
}

// perms is the group that permutations make.
func perms(t *testing.T, makers ...[]int) api.Group {
	t.Helper()
	g, _, f := table.Perms(makers)
	same(t, "fault", f, api.Fault{})
	return g
}

func evenOfFour(t *testing.T) api.Group {
	t.Helper()
	return perms(t, []int{1, 2, 0, 3}, []int{1, 0, 3, 2})
}

func allOfFour(t *testing.T) api.Group {
	t.Helper()
	return perms(t, []int{1, 0, 2, 3}, []int{1, 2, 3, 0})
}

func evenOfFive(t *testing.T) api.Group {
	t.Helper()
	return perms(t, []int{1, 2, 3, 4, 0}, []int{1, 2, 0, 3, 4})
}

// counted has each x below n as to(x).
func counted(n int, to func(x int) int) []int {
	p := make([]int, n)
	for x := range p {
		p[x] = to(x)
	}
	return p
}

// first has the numbers below n.
func first(n int) []int { return counted(n, func(x int) int { return x }) }

// lines has x to k^i x + j, for all i and j, by the prime n.
func lines(t *testing.T, n, k int) api.Group {
	t.Helper()
	return perms(t, counted(n, func(x int) int { return (x + 1) % n }), counted(n, func(x int) int { return k * x % n }))
}

// linesOfEight has the lines over the field of eight: 56 things.
func linesOfEight(t *testing.T) api.Group {
	t.Helper()
	return perms(t, counted(8, func(x int) int { return x ^ 1 }), counted(8, func(x int) int { return (x<<1 ^ x>>2*11) & 7 }))
}

// regularByThree has all regular matrices of two rows over three numbers, as
// permutations of the nine columns.
func regularByThree(t *testing.T) api.Group {
	t.Helper()
	shear := counted(9, func(v int) int { return (v/3+v)%3*3 + v%3 })
	swap := counted(9, func(v int) int { return v%3*3 + v/3 })
	return perms(t, shear, swap)
}

// product is that of some groups.
func product(t *testing.T, g api.Group, others ...api.Group) api.Group {
	t.Helper()
	for _, h := range others {
		var f api.Fault
		g, f = table.Product(g, h)
		same(t, "fault", f, api.Fault{})
	}
	return g
}

// renamed calls each thing a of g by the number name(a).
func renamed(g api.Group, name func(a int) int) api.Group {
	out := api.Group{N: g.N, Mul: make([]int, g.N*g.N)}
	for a := range g.N {
		for b := range g.N {
			out.Mul[name(a)*g.N+name(b)] = name(of(g, a, b))
		}
	}
	return out
}

// shuffled calls the things of g by other numbers, so that the one is not 0.
func shuffled(g api.Group) api.Group {
	return renamed(g, func(a int) int { return (g.N + 1 - a) % g.N })
}

// strewn calls them by other numbers in a less plain way.
func strewn(g api.Group) api.Group {
	step := 7
	for ; gcd(step, g.N) > 1; step++ {
	}
	return renamed(g, func(a int) int { return (step*a + g.N/2) % g.N })
}

func gcd(a, b int) int {
	for b > 0 {
		a, b = b, a%b
	}
	return a
}

// smallGroups are all groups of up to 24 things, each once, whatever its things
// are called: all are what Cyclic and Dicyclic make, or semidirect products of
// smaller ones and cyclic ones. How many there are is known.
func smallGroups(t *testing.T) []api.Group {
	t.Helper()
	counts := []int{0, 1, 1, 1, 2, 1, 2, 1, 5, 2, 2, 1, 5, 1, 2, 1, 14, 1, 5, 1, 5, 2, 2, 1, 15}
	var out []api.Group
	for n := 1; n < len(counts); n++ {
		found := []api.Group{given(t, table.Cyclic, n)}
		if n%4 == 0 {
			found = append(found, given(t, table.Dicyclic, n/4))
		}
		for _, g := range out {
			if n%g.N == 0 && n > g.N {
				found = append(found, turnedBy(t, g, n/g.N)...)
			}
		}
		kinds := apart(found)
		if len(kinds) != counts[n] {
			t.Fatalf("%d groups of %d things", len(kinds), n)
		}
		out = append(out, kinds...)
	}
	return out
}

// turnedBy has the semidirect products of g and a cyclic group of n things.
func turnedBy(t *testing.T, g api.Group, n int) []api.Group {
	t.Helper()
	autos, f := hom.Autos(g)
	same(t, "fault", f, api.Fault{})
	var out []api.Group
	for _, m := range autos {
		act := [][]int{first(g.N)}
		for range n {
			last := act[len(act)-1]
			act = append(act, counted(g.N, func(x int) int { return m[last[x]] }))
		}
		if slices.Equal(act[n], first(g.N)) {
			h, f := prod.Semi(g, given(t, table.Cyclic, n), act[:n])
			same(t, "fault", f, api.Fault{})
			out = append(out, h)
		}
	}
	return out
}

// apart has of groups of as many things each kind once.
func apart(list []api.Group) []api.Group {
	var out []api.Group
	for _, g := range list {
		there := slices.ContainsFunc(out, func(h api.Group) bool {
			_, f := hom.Iso(g, h)
			return f.Code == api.OK
		})
		if !there {
			out = append(out, g)
		}
	}
	return out
}

// largeGroups have 25 to 60 things.
func largeGroups(t *testing.T) []api.Group {
	t.Helper()
	two, three, six := given(t, table.Cyclic, 2), given(t, table.Cyclic, 3), given(t, table.Dihedral, 3)
	five, eight, quaternions := given(t, table.Cyclic, 5), given(t, table.Cyclic, 8), given(t, table.Dicyclic, 2)
	return []api.Group{
		given(t, table.Cyclic, 25), given(t, table.Cyclic, 49), given(t, table.Cyclic, 59), given(t, table.Cyclic, 60),
		given(t, table.Dihedral, 13), given(t, table.Dihedral, 15), given(t, table.Dihedral, 16), given(t, table.Dihedral, 30),
		given(t, table.Dicyclic, 7), given(t, table.Dicyclic, 8), given(t, table.Dicyclic, 15),
		product(t, two, two, two, two, two), product(t, three, three, three), product(t, six, six),
		product(t, three, three, six), product(t, two, allOfFour(t)), product(t, two, two, evenOfFour(t)), product(t, five, evenOfFour(t)),
		product(t, six, eight), product(t, five, quaternions), product(t, five, given(t, table.Dihedral, 4)),
		lines(t, 7, 3), lines(t, 11, 3), lines(t, 13, 3), lines(t, 13, 5), lines(t, 19, 7), linesOfEight(t),
		evenOfFive(t), regularByThree(t),
	}
}

// groups have up to 60 things, each twice: as it is, and with other numbers for
// its things.
func groups(t *testing.T) []api.Group {
	t.Helper()
	var out []api.Group
	for i, g := range append(smallGroups(t), largeGroups(t)...) {
		if i%2 == 0 {
			out = append(out, g, shuffled(g))
		} else {
			out = append(out, g, strewn(g))
		}
	}
	return out
}

// fewClasses are those of groups that have up to 24 classes.
func fewClasses(t *testing.T) []api.Group {
	t.Helper()
	return slices.DeleteFunc(groups(t), func(g api.Group) bool { return len(classesIn(g)) > 24 })
}

// What follows tells the chapter's words again, without the program.

func of(g api.Group, a, b int) int { return g.Mul[a*g.N+b] }

func oneIn(g api.Group) int {
	for e := range g.N {
		if of(g, e, e) == e {
			return e
		}
	}
	return -1
}

func inverseIn(g api.Group, a int) int {
	for b := range g.N {
		if of(g, a, b) == oneIn(g) {
			return b
		}
	}
	return -1
}

// classIn has all y with a y = x a for some a, rising.
func classIn(g api.Group, x int) []int {
	return slices.DeleteFunc(first(g.N), func(y int) bool {
		return !slices.ContainsFunc(first(g.N), func(a int) bool { return of(g, a, y) == of(g, x, a) })
	})
}

// classesIn are all classes, each where its least thing is met.
func classesIn(g api.Group) [][]int {
	var out [][]int
	for x := range g.N {
		if l := classIn(g, x); l[0] == x {
			out = append(out, l)
		}
	}
	return out
}

// timesIn goes through all pairs of a thing of one class and one of another.
func timesIn(classes [][]int, g api.Group) [][][]int {
	out := make([][][]int, len(classes))
	for i, l := range classes {
		out[i] = make([][]int, len(classes))
		for j, m := range classes {
			out[i][j] = counted(len(classes), func(k int) int {
				ways := 0
				for _, a := range l {
					for _, b := range m {
						if of(g, a, b) == classes[k][0] {
							ways++
						}
					}
				}
				return ways
			})
		}
	}
	return out
}

// numberOf is that of the class that has a.
func numberOf(classes [][]int, a int) int {
	return slices.IndexFunc(classes, func(l []int) bool { return slices.Contains(l, a) })
}

// words are what the chapter's words speak of.
type words struct {
	n       int
	one     int // the class of the one
	classes [][]int
	inverse []int // of each class that of inverses
	times   [][][]int
}

func wordsOf(g api.Group) words {
	classes := classesIn(g)
	return words{
		n:       g.N,
		one:     numberOf(classes, oneIn(g)),
		classes: classes,
		inverse: counted(len(classes), func(i int) int { return numberOf(classes, inverseIn(g, classes[i][0])) }),
		times:   timesIn(classes, g),
	}
}

// isPrime: is p above 1, and divided by no number between?
func isPrime(p int) bool {
	for d := 2; d < p; d++ {
		if p%d == 0 {
			return false
		}
	}
	return p > 1
}

// exponentIn is the least number above 0 by which all powers are the one.
func exponentIn(g api.Group) int {
	for e := 1; ; e++ {
		if !slices.ContainsFunc(first(g.N), func(a int) bool { return powerIn(g, a, e) != oneIn(g) }) {
			return e
		}
	}
}

func powerIn(g api.Group, a, n int) int {
	power := oneIn(g)
	for range n {
		power = of(g, power, a)
	}
	return power
}

// primeIn is the least p by which characters are told.
func primeIn(g api.Group) int {
	e := exponentIn(g)
	for p := 2*g.N + 1; ; p++ {
		if isPrime(p) && (p-1)%e == 0 {
			return p
		}
	}
}

// divided is the number from 0 to p - 1 that is a, multiplied by b.
func divided(a, b, p int) int {
	for x := range p {
		if (x*b-a)%p == 0 {
			return x
		}
	}
	return -1
}

// stray is what is wrong with a row as a character by p, in words; "" if
// nothing is.
func (w words) stray(row []int, p int) string {
	if len(row) != len(w.classes) {
		return "not one for each class"
	}
	if slices.ContainsFunc(row, func(a int) bool { return a < 0 || a >= p }) {
		return "not from 0 to p - 1"
	}
	d := row[w.one]
	if d < 1 || d > w.n {
		return "d is not from 1 to N"
	}
	weights := counted(len(row), func(i int) int { return divided(row[i]*len(w.classes[i]), d, p) })
	if !w.multiply(weights, p) {
		return "does not multiply as classes do"
	}
	sum := 0
	for i := range weights {
		sum += divided(weights[i]*weights[w.inverse[i]], len(w.classes[i]), p)
	}
	if (d*d*sum-w.n)%p != 0 {
		return "is not N"
	}
	return ""
}

// multiply: do they multiply as classes do?
func (w words) multiply(weights []int, p int) bool {
	for i := range weights {
		for j := range weights {
			sum := 0
			for k := range weights {
				sum += w.times[i][j][k] * weights[k]
			}
			if (sum-weights[i]*weights[j])%p != 0 {
				return false
			}
		}
	}
	return true
}

// ahead: does row stand ahead of other?
func (w words) ahead(row, other []int) bool {
	if row[w.one] != other[w.one] {
		return row[w.one] < other[w.one]
	}
	return slices.Compare(row, other) < 0
}
