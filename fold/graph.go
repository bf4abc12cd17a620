package fold

import (
	"maps"
	"slices"
)

// step is a letter that leads from a point to one.
type step struct {
	letter int
	to     int
}

// graph has of each point its steps, by rising letters, none with a letter of
// another one. Each step stands there once more, as its opposite letter that
// leads back. A reduced word is in the subgroup just where it leads from point 0
// to point 0, and each point is passed by such a word; points are numbered in
// the order in which steps lead to them. So each subgroup has one graph alone.
type graph [][]step

// graphOf is the graph of the subgroup of some reduced words.
func graphOf(words [][]int) graph {
	f := &folding{}
	f.newPoint()
	for _, w := range words {
		f.addLoop(w)
	}
	f.settle()
	return f.numbered()
}

// next is the point to which a letter leads, if it leads to one.
func (g graph) next(at, letter int) (int, bool) {
	for _, s := range g[at] {
		if s.letter == letter {
			return s.to, true
		}
	}
	return 0, false
}

// leadsBack: does a reduced word lead from point 0 to point 0?
func (g graph) leadsBack(w []int) bool {
	at := 0
	for _, x := range w {
		to, there := g.next(at, x)
		if !there {
			return false
		}
		at = to
	}
	return at == 0
}

// rank is how many words a basis has: one for each pair of steps, there and
// back, that is not needed to reach a point.
func (g graph) rank() int {
	steps := 0
	for _, s := range g {
		steps += len(s)
	}
	return steps/2 - (len(g) - 1)
}

func (g graph) equal(h graph) bool {
	return slices.EqualFunc(g, h, slices.Equal[[]step])
}

// both has the steps that g and h take together, from pairs of their points,
// each told as one number, and how many pairs there are. What leads from 0 to 0
// leads back in both.
func both(g, h graph) (int, func(at int) []step) {
	return len(g) * len(h), func(at int) []step {
		var out []step
		for _, s := range g[at/len(h)] {
			for _, t := range h[at%len(h)] {
				if s.letter == t.letter {
					out = append(out, step{s.letter, s.to*len(h) + t.to})
				}
			}
		}
		return out
	}
}

// folding is a graph that is being made: where a letter would lead to two
// points, one of them is laid upon the other.
type folding struct {
	steps  []map[int]int // of each point, where its letters lead
	upon   []int         // of each point, the one that it was laid upon, or itself
	doubts [][2]int      // points that are to be one
}

// newPoint is the number of a point that is added.
func (f *folding) newPoint() int {
	p := len(f.upon)
	f.steps = append(f.steps, map[int]int{})
	f.upon = append(f.upon, p)
	return p
}

// addLoop adds a way from point 0 to point 0 on which w is read.
func (f *folding) addLoop(w []int) {
	at := 0
	for i, x := range w {
		to := 0
		if i < len(w)-1 {
			to = f.newPoint()
		}
		f.put(at, x, to)
		f.put(to, -x, at)
		at = to
	}
}

// put lets a letter lead from one point to another.
func (f *folding) put(at, letter, to int) {
	if other, there := f.steps[at][letter]; there {
		f.doubts = append(f.doubts, [2]int{other, to})
		return
	}
	f.steps[at][letter] = to
}

// standing is the point that has p's steps now.
func (f *folding) standing(p int) int {
	for f.upon[p] != p {
		p = f.upon[p]
	}
	return p
}

// settle makes one of points that are to be one, until no letter leads to two.
func (f *folding) settle() {
	for len(f.doubts) > 0 {
		last := len(f.doubts) - 1
		p, q := f.standing(f.doubts[last][0]), f.standing(f.doubts[last][1])
		f.doubts = f.doubts[:last]
		if p != q {
			// The lesser one stays, so that point 0 always stands.
			f.lay(max(p, q), min(p, q))
		}
	}
}

// lay lays p upon q. In which order p's steps are taken does not matter: which
// points become one hangs on the words alone.
func (f *folding) lay(p, q int) {
	f.upon[p] = q
	for letter, to := range f.steps[p] {
		f.put(q, letter, to)
	}
	f.steps[p] = nil
}

// numbered is the graph of the points that stand.
func (f *folding) numbered() graph {
	var g graph
	points, numbers := []int{0}, map[int]int{0: 0}
	for len(g) < len(points) {
		from := f.steps[points[len(g)]]
		var steps []step
		for _, letter := range slices.Sorted(maps.Keys(from)) {
			to := f.standing(from[letter])
			n, known := numbers[to]
			if !known {
				n = len(points)
				numbers[to] = n
				points = append(points, to)
			}
			steps = append(steps, step{letter, n})
		}
		g = append(g, steps)
	}
	return g
}
