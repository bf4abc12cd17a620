package char

// weights are all lists that multiply as classes do and have 1 at the class of
// the one. Each class moves such a list to a multiple of it, by its own weight.
// There are as many such lists as classes, and they are independent (the prime
// does not divide N, and the field has all roots of one that are asked for): so
// the space of all lists falls into parts that a class moves to multiples, and
// when all classes have parted it, each part has the multiples of one list.
func (g group) weights() [][]int {
	var found [][]int
	var part func(space [][]int, class int)
	part = func(space [][]int, class int) {
		if len(space) == 1 {
			found = append(found, g.scaled(space[0]))
			return
		}
		left := len(space)
		for weight := 0; left > 0 && weight < g.field.P; weight++ {
			less := g.field.Kernel(space, func(list []int) []int { return g.moved(list, class, weight) })
			if len(less) > 0 {
				part(less, class+1)
				left -= len(less)
			}
		}
	}
	part(units(len(g.sizes)), 0)
	return found
}

// moved is where a class moves a list, less weight times the list: noughts, just
// where it moves it to that multiple.
func (g group) moved(list []int, class, weight int) []int {
	out := make([]int, len(list))
	for j, ways := range g.times[class] {
		sum := -weight * list[j]
		for k, n := range ways {
			sum += n * list[k]
		}
		out[j] = g.field.Mod(sum)
	}
	return out
}

// scaled is the multiple of a list that has 1 at the class of the one.
func (g group) scaled(list []int) []int {
	inverse := g.field.Inverse(list[g.one])
	out := make([]int, len(list))
	for i, a := range list {
		out[i] = a * inverse % g.field.P
	}
	return out
}

// units make all lists of n numbers: each has 1 at one place.
func units(n int) [][]int {
	out := make([][]int, n)
	for i := range n {
		out[i] = make([]int, n)
		out[i][i] = 1
	}
	return out
}
