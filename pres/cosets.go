package pres

import (
	"slices"

	"cayley/abel"
	"cayley/api"
	"cayley/free"
)

const (
	// promised is how many letters words may have together of which it is
	// promised that all cosets are found, if they are few.
	promised = 12
	// mostSteps is how many letters are read before a search is given up.
	mostSteps = 1 << 27

	none = -1 // where a letter leads, as long as that is not known
)

// mostCosets is how many cosets are made of words of so many letters, with those
// that turn out to be others, before the search is given up. Where up to 1000
// are left in the end, up to 372000 were seen to be made of 12 letters (BAA, BBBa
// and CCAcB), some thousands of 11, and far fewer of each number below.
func mostCosets(letters int) int { return 1 << (8 + min(letters, promised)) }

// tooMany is what the search panics with when it is given up, as too many cosets
// were made, or too many letters were read.
type tooMany struct{}

// step is a letter that leads from a coset to another one, by its column.
type step struct {
	from   int
	column int
}

// search is a table of cosets that is being made (Todd, Coxeter, Felsch). Its
// columns are those of the rows that are answered: a letter's and its opposite's
// differ in the last bit alone.
type search struct {
	columns int
	most    int       // so many cosets are made before it is given up
	leads   []int32   // from each coset, column by column, to which one
	upon    []int     // of each coset the one that it was laid upon, or itself
	fresh   []step    // through which the relators are still to be read
	loops   [][][]int // of each column the relators, turned and inverted, that begin with it
	steps   int       // how many letters were read
}

// column is where a letter stands in a row.
func column(letter int) int {
	if letter > 0 {
		return 2 * (letter - 1)
	}
	return 2*(-letter-1) + 1
}

// columnsOf are those of a word's letters.
func columnsOf(w []int) []int {
	out := make([]int, len(w))
	for i, x := range w {
		out[i] = column(x)
	}
	return out
}

// cosets are the rows of all cosets, if there are no more than most, and the
// search for them is not given up.
func cosets(n int, rels, subs [][]int, most int) (rows [][]int, found bool) {
	if endless(n, rels, subs) {
		return nil, false
	}
	defer func() {
		switch p := recover().(type) {
		case nil:
		case tooMany:
			rows, found = nil, false
		default:
			panic(p)
		}
	}()
	return searched(n, rels, subs).numbered(most)
}

// endless: is it seen that infinitely many cosets are left where all things
// commute? This is asked first, as a search without end takes long until it is
// given up. Of more relations than Present takes it is not seen.
func endless(n int, rels, subs [][]int) bool {
	_, infinite, f := abel.Present(sums(n, slices.Concat(rels, subs)), n)
	return f.Code == api.OK && infinite > 0
}

// searched is the whole table.
func searched(n int, rels, subs [][]int) *search {
	letters := len(slices.Concat(rels...)) + len(slices.Concat(subs...))
	s := &search{columns: 2 * n, most: mostCosets(letters), loops: make([][][]int, 2*n)}
	for _, w := range rels {
		s.addRelator(w)
	}
	first := s.newCoset()
	for _, w := range subs {
		s.addLoop(first, w)
	}
	for a := first; a < len(s.upon); a++ {
		s.fillRow(a)
	}
	return s
}

// addRelator adds what is read of a checked word: its core in all its turns.
func (s *search) addRelator(w []int) {
	core, _, _ := free.Core(w)
	root, _, f := free.Root(core)
	if f.Code != api.OK {
		return // a word that becomes the one asks for nothing
	}
	back, _ := free.Inv(core)
	for _, v := range [][]int{columnsOf(core), columnsOf(back)} {
		twice := slices.Concat(v, v)
		for i := range len(root) { // turned by its root a power is the same again
			s.loops[v[i]] = append(s.loops[v[i]], twice[i:i+len(v)])
		}
	}
}

// newCoset is the number of a coset that is added.
func (s *search) newCoset() int {
	a := len(s.upon)
	if a == s.most {
		panic(tooMany{})
	}
	s.upon = append(s.upon, a)
	s.leads = append(s.leads, slices.Repeat([]int32{none}, s.columns)...)
	return a
}

// addLoop lets a word lead from a coset back to it.
func (s *search) addLoop(first int, w []int) {
	loop := columnsOf(w)
	at := first
	for i := range len(loop) - 1 {
		if s.next(at, loop[i]) == none {
			s.join(at, loop[i], s.newCoset())
		}
		at = s.next(at, loop[i])
	}
	s.read(first, loop)
	s.settle()
}

// fillRow makes a coset wherever a letter leads from a to none that is known.
func (s *search) fillRow(a int) {
	for c := range s.columns {
		if s.stands(a) && s.next(a, c) == none {
			s.join(a, c, s.newCoset())
			s.settle()
		}
	}
}

// settle reads the relators through fresh steps, until none is left. A relator
// that leads through a step the other way is read as its inverse.
func (s *search) settle() {
	for len(s.fresh) > 0 {
		last := len(s.fresh) - 1
		f := s.fresh[last]
		s.fresh = s.fresh[:last]
		for _, loop := range s.loops[f.column] {
			if !s.stands(f.from) {
				break // its steps are fresh ones of another coset now
			}
			s.read(f.from, loop)
		}
	}
}

// read follows a word that leads from a back to a, from both of its ends, as far
// as it is known. Where one letter is left it is known from now on; where none
// is, both ends have come to the same coset.
func (s *search) read(a int, loop []int) {
	from, to := a, a
	i, j := 0, len(loop)
	for ; i < j && s.next(from, loop[i]) != none; i++ {
		from = s.next(from, loop[i])
	}
	for ; i < j && s.next(to, loop[j-1]^1) != none; j-- {
		to = s.next(to, loop[j-1]^1)
	}
	s.steps += 1 + len(loop) - (j - i)
	if s.steps > mostSteps {
		panic(tooMany{})
	}
	switch j - i {
	case 0:
		s.layUpon(from, to)
	case 1:
		s.join(from, loop[i], to)
	}
}

// next is the coset to which a letter leads from a, or none.
func (s *search) next(a, c int) int { return int(s.leads[a*s.columns+c]) }

func (s *search) put(a, c, b int) { s.leads[a*s.columns+c] = int32(b) }

func (s *search) stands(a int) bool { return s.upon[a] == a }

// join lets a letter lead from a to b, and its opposite back.
func (s *search) join(a, c, b int) {
	s.put(a, c, b)
	s.put(b, c^1, a)
	s.fresh = append(s.fresh, step{a, c})
}

// standing is the coset that stands where a was.
func (s *search) standing(a int) int {
	for !s.stands(a) {
		s.upon[a] = s.upon[s.upon[a]] // the next time it is nearer
		a = s.upon[a]
	}
	return a
}

// layUpon makes one coset of a and b, and of those to which a letter leads from
// both, and so on.
func (s *search) layUpon(a, b int) {
	laid := s.lay(nil, a, b)
	for i := 0; i < len(laid); i++ { // laid grows meanwhile
		for c := range s.columns {
			laid = s.moveStep(laid, laid[i], c)
		}
	}
}

// lay lays one of a and b upon the other, the earlier one, and notes it, if they
// are not one yet.
func (s *search) lay(laid []int, a, b int) []int {
	a, b = s.standing(a), s.standing(b)
	if a == b {
		return laid
	}
	s.upon[max(a, b)] = min(a, b)
	return append(laid, max(a, b))
}

// moveStep takes a step away from a coset that was laid, and lets it lead from
// the one that stands there, and to the one that stands where it led.
func (s *search) moveStep(laid []int, a, c int) []int {
	b := s.next(a, c)
	if b == none {
		return laid
	}
	s.put(a, c, none)
	s.put(b, c^1, none)
	a, b = s.standing(a), s.standing(b)
	if to := s.next(a, c); to != none {
		return s.lay(laid, to, b)
	}
	if from := s.next(b, c^1); from != none {
		return s.lay(laid, from, a)
	}
	s.join(a, c, b)
	return laid
}

// numbered are the rows of the cosets that stand, in the order in which they are
// come to, row by row, if there are no more than most.
func (s *search) numbered(most int) ([][]int, bool) {
	found, numbers := []int{0}, map[int]int{0: 0}
	var rows [][]int
	for len(rows) < len(found) {
		row := make([]int, s.columns)
		for c := range row {
			to := s.next(found[len(rows)], c)
			n, known := numbers[to]
			if !known {
				n = len(found)
				numbers[to] = n
				found = append(found, to)
			}
			row[c] = n
		}
		if len(found) > most {
			return nil, false
		}
		rows = append(rows, row)
	}
	return rows, true
}
