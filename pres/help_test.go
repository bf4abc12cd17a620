package pres_test

import (
	"fmt"
	"slices"
	"testing"

	"cayley/api"
	"cayley/pres"
	"cayley/table"
)

func fault(code, at int) api.Fault { return api.Fault{Code: code, At: at} }

// much is the fault of too many cosets, or things.
var much = fault(api.ErrMuch, 0)

// same holds two answers against each other; an empty list is a nil list.
func same(t *testing.T, what string, got, want any) {
	t.Helper()
	if fmt.Sprint(got) != fmt.Sprint(want) {
		t.Errorf("%s: %v, want %v", what, got, want)
	}
}

// answer is what a call answers; what it does not answer is empty.
type answer struct {
	rows  [][]int
	g     api.Group
	makes []int
	texts []string
	n     int
	is    bool
	f     api.Fault
}

// refused is the answer that has this fault, and nothing beside it.
func refused(f api.Fault) answer { return answer{f: f} }

func cosets(n int, rels, subs [][]int, most int) answer {
	rows, f := pres.Cosets(n, rels, subs, most)
	return answer{rows: rows, f: f}
}

func group(n int, rels [][]int) answer {
	g, makes, f := pres.Group(n, rels)
	return answer{g: g, makes: makes, f: f}
}

func commuting(n int, rels [][]int) answer {
	texts, parts, f := pres.Abel(n, rels)
	return answer{texts: texts, n: parts, f: f}
}

func holds(g api.Group, makes []int, rels [][]int) answer {
	is, f := pres.Holds(g, makes, rels)
	return answer{is: is, f: f}
}

// callsOfRels are all calls, as they take n and relators, with what else they
// take, in which nothing is wrong.
func callsOfRels() map[string]func(n int, rels [][]int) answer {
	one := api.Group{N: 1, Mul: []int{0}}
	return map[string]func(n int, rels [][]int) answer{
		"Cosets":          func(n int, rels [][]int) answer { return cosets(n, rels, [][]int{{1}}, 10) },
		"Cosets of all":   func(n int, rels [][]int) answer { return cosets(n, rels, nil, api.MaxList) },
		"Group":           group,
		"Abel":            commuting,
		"Holds":           func(n int, rels [][]int) answer { return holds(one, make([]int, max(n, 0)%100), rels) },
		"Holds elsewhere": func(n int, rels [][]int) answer { return holds(six(), make([]int, max(n, 0)%100), rels) },
	}
}

// six is the group of a triangle's turns and mirrors, with the one at 4.
func six() api.Group {
	g, _ := table.Dihedral(3)
	return moved(g, []int{4, 2, 0, 5, 1, 3})
}

// moved is g, with what was a at to[a].
func moved(g api.Group, to []int) api.Group {
	out := api.Group{N: g.N, Mul: make([]int, len(g.Mul))}
	for a := range g.N {
		for b := range g.N {
			out.Mul[to[a]*g.N+to[b]] = to[g.Mul[a*g.N+b]]
		}
	}
	return out
}

// word is that of a text: a to f, A to F for their opposites.
func word(text string) []int {
	var w []int
	for _, c := range []byte(text) {
		if c >= 'a' {
			w = append(w, int(c-'a')+1)
		} else {
			w = append(w, -int(c-'A')-1)
		}
	}
	return w
}

// list has the words of some texts.
func list(texts ...string) [][]int {
	var out [][]int
	for _, text := range texts {
		out = append(out, word(text))
	}
	return out
}

// power is a word, n times.
func power(w []int, n int) []int { return slices.Repeat(w, n) }

// back is w's inverse.
func back(w []int) []int {
	out := make([]int, len(w))
	for i, x := range w {
		out[len(w)-1-i] = -x
	}
	return out
}

// place is where a letter stands in a row.
func place(letter int) int {
	return slices.Index([]int{1, -1, 2, -2, 3, -3, 4, -4, 5, -5, 6, -6}, letter)
}

// to is where a word leads from a row, or -1, if that is not known.
func to(rows [][]int, at int, w []int) int {
	for _, x := range w {
		if at < 0 {
			return at
		}
		at = rows[at][place(x)]
	}
	return at
}

// asTold holds rows against all that the chapter says of them, but how many
// they are: letters lead to and fro, relators from each row back to it, the
// words of subs from the first one, and all rows are come to in their order. So
// they are the cosets of a subgroup that has all of subs.
func asTold(t *testing.T, what string, n int, rels, subs, rows [][]int) {
	t.Helper()
	next := 1
	for i, row := range rows {
		if len(row) != 2*n || i >= next {
			t.Fatalf("%s: row %d: %v", what, i, row)
		}
		for c, b := range row {
			if b < 0 || b > next || b >= len(rows) || rows[b][c^1] != i {
				t.Fatalf("%s: row %d: %v", what, i, row)
			}
			next = max(next, b+1)
		}
	}
	for i := range rows {
		for _, w := range rels {
			if to(rows, i, w) != i {
				t.Fatalf("%s: %v leads from %d to %d", what, w, i, to(rows, i, w))
			}
		}
	}
	for _, w := range subs {
		if to(rows, 0, w) != 0 {
			t.Fatalf("%s: %v leads to %d", what, w, to(rows, 0, w))
		}
	}
}

// tables looks for whole tables of cosets, from short ones to long ones: at
// each place that is free it tries all rows that there are, and one more.
type tables struct {
	rels, subs [][]int
	rows       [][]int
	most       int
	tries      int
	found      func(rows [][]int) bool // shall it be ended?
}

// search tells whether it was ended, by found or by too many tries.
func (s *tables) search() bool {
	if s.tries--; s.tries < 0 {
		return true
	}
	for a, row := range s.rows {
		for c, b := range row {
			if b < 0 {
				return s.fill(a, c)
			}
		}
	}
	return s.found(s.rows)
}

func (s *tables) fill(a, c int) bool {
	for b := 0; b <= len(s.rows) && b < s.most; b++ {
		grew := b == len(s.rows)
		if grew {
			s.rows = append(s.rows, freeRow(len(s.rows[0])))
		}
		if s.rows[b][c^1] < 0 {
			s.rows[a][c], s.rows[b][c^1] = b, a
			if s.fits() && s.search() {
				return true
			}
			s.rows[a][c], s.rows[b][c^1] = -1, -1
		}
		if grew {
			s.rows = s.rows[:b]
		}
	}
	return false
}

func freeRow(n int) []int { return slices.Repeat([]int{-1}, n) }

// fits: does no word lead to a wrong row, as far as it is known where it leads?
func (s *tables) fits() bool {
	for at := range s.rows {
		for _, w := range s.rels {
			if end := to(s.rows, at, w); end >= 0 && end != at {
				return false
			}
		}
	}
	return !slices.ContainsFunc(s.subs, func(w []int) bool { return to(s.rows, 0, w) > 0 })
}

// longest is how many rows the longest table of up to most rows has.
func longest(n int, rels, subs [][]int, most int) int {
	out := 0
	s := tables{rels: rels, subs: subs, rows: [][]int{freeRow(2 * n)}, most: most, tries: 1 << 60}
	s.found = func(rows [][]int) bool {
		out = max(out, len(rows))
		return false
	}
	s.search()
	return out
}

// isLonger: is there a table of more than least rows, and up to most?
func isLonger(n int, rels, subs [][]int, least, most int) bool {
	is := false
	s := tables{rels: rels, subs: subs, rows: [][]int{freeRow(2 * n)}, most: most, tries: 100000}
	s.found = func(rows [][]int) bool {
		is = len(rows) > least
		return is
	}
	s.search()
	return is
}

// chance yields numbers without order, always the same ones.
type chance struct{ state uint64 }

func newChance(seed int) *chance {
	return &chance{uint64(seed)*2862933555777941757 + 3037000493}
}

// below is a number from 0 to n - 1.
func (c *chance) below(n int) int {
	c.state = c.state*6364136223846793005 + 1442695040888963407
	return int(c.state>>33) % n
}

// word has n letters among 1 to most and their opposites.
func (c *chance) word(n, most int) []int {
	w := make([]int, n)
	for i := range w {
		w[i] = c.below(most) + 1
		if c.below(2) == 0 {
			w[i] = -w[i]
		}
	}
	return w
}

// list has n words of up to most letters each.
func (c *chance) list(n, most, letters int) [][]int {
	out := make([][]int, n)
	for i := range out {
		out[i] = c.word(c.below(most+1), letters)
	}
	return out
}

// order is a permutation of n numbers.
func (c *chance) order(n int) []int {
	p := make([]int, n)
	for i := range p {
		j := c.below(i + 1)
		p[i] = p[j]
		p[j] = i
	}
	return p
}

// words are all of 1 up to most letters among 1 to n and their opposites, short ones first.
func words(n, most int) [][]int {
	out := [][]int{{}}
	for at := 0; at < len(out) && len(out[at]) < most; at++ {
		for x := -n; x <= n; x++ {
			if x != 0 {
				out = append(out, append(slices.Clone(out[at]), x))
			}
		}
	}
	return out[1:]
}
