package act

// parting is a way to part points into sets. Each point names one of its set,
// and so on, up to the one that names itself: it stands for the set.
type parting struct {
	names []int
}

// singles parts n points into sets of one.
func singles(n int) parting {
	names := make([]int, n)
	for x := range names {
		names[x] = x
	}
	return parting{names}
}

// name is the point that stands for x's set. On its way it lets points name
// one that is further on, so that the next way is shorter.
func (p parting) name(x int) int {
	for p.names[x] != x {
		p.names[x] = p.names[p.names[x]]
		x = p.names[x]
	}
	return x
}

// join makes one set of x's and y's; is it new that they are in one?
func (p parting) join(x, y int) bool {
	first, second := p.name(x), p.name(y)
	p.names[second] = first
	return first != second
}

// sets are those of all points, each rising, by their least points.
func (p parting) sets() [][]int {
	var sets [][]int
	numbers := map[int]int{} // of each point that stands for a set: the set's place
	for x := range p.names {
		at, there := numbers[p.name(x)]
		if !there {
			at = len(sets)
			numbers[p.name(x)] = at
			sets = append(sets, nil)
		}
		sets[at] = append(sets[at], x)
	}
	return sets
}

// whole: is there just one set?
func (p parting) whole() bool {
	for x := range p.names {
		if p.name(x) != p.name(0) {
			return false
		}
	}
	return len(p.names) > 0
}
