package fold

import (
	"slices"

	"cayley/api"
)

// way is the end of a shortest way from point 0 to a point: the point ahead of
// it, the letter that leads on from there, and how many letters the way has.
type way struct {
	from   int
	letter int
	length int
}

// bridge is a step that is on no way.
type bridge struct {
	from   int
	letter int
	to     int
}

// search finds ways, from nearer points to farther ones, and bridges.
type search struct {
	ways    []way
	bridges []bridge // each in the direction in which its letter is above 0
	letters int      // how many letters the words of all bridges have
}

// basis is a basis of the reduced words that lead from point 0 to point 0 by
// the steps that a function tells of each of so many points, if Check has
// nothing to say of it.
//
// It has a word for each bridge: the way there, the bridge, and the way back.
// No basis has fewer letters: a word that leads over a bridge is not shorter
// than the bridge's own, since ways are as short as can be, and words that make
// the subgroup can be given to the bridges so that each has one that leads over it.
func basis(points int, steps func(at int) []step) ([][]int, bool) {
	s := search{ways: make([]way, points)}
	reached := []int{0}
	for i := 0; i < len(reached); i++ {
		for _, next := range steps(reached[i]) {
			if s.follow(reached[i], next) {
				reached = append(reached, next.to)
			}
		}
		if len(s.bridges) > mostWords || s.letters > api.MaxWord {
			return nil, false
		}
	}
	out := make([][]int, len(s.bridges))
	for i, b := range s.bridges {
		out[i] = s.word(b)
	}
	return out, true
}

// follow notes what a step is, and tells whether it is the first one to its point.
func (s *search) follow(at int, next step) bool {
	here, there := s.ways[at], s.ways[next.to]
	if next.to != 0 && there.letter == 0 {
		s.ways[next.to] = way{at, next.letter, here.length + 1}
		return true
	}
	// Each bridge is met from both ends, but noted from one; the step back along
	// the way to this point is none.
	if next.letter > 0 && next.letter != -here.letter {
		s.bridges = append(s.bridges, bridge{at, next.letter, next.to})
		s.letters += here.length + 1 + there.length
	}
	return false
}

// word leads to a bridge, over it, and back.
func (s *search) word(b bridge) []int {
	var out []int
	for at := b.from; at != 0; at = s.ways[at].from {
		out = append(out, s.ways[at].letter)
	}
	slices.Reverse(out)
	out = append(out, b.letter)
	for at := b.to; at != 0; at = s.ways[at].from {
		out = append(out, -s.ways[at].letter)
	}
	return out
}
