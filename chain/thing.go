package chain

// thing is a permutation as a value, so that maps can be asked for it. Points
// beyond those that there are stay.
type thing [maxPoints]uint8

// stays is the one that moves nothing.
func stays() thing {
	var x thing
	for i := range x {
		x[i] = uint8(i)
	}
	return x
}

// thingOf is p, of at most maxPoints points.
func thingOf(p []int) thing {
	x := stays()
	for i, to := range p {
		x[i] = uint8(to)
	}
	return x
}

// list has where x moves the first n points.
func (x thing) list(n int) []int {
	p := make([]int, n)
	for i := range p {
		p[i] = int(x[i])
	}
	return p
}

// then moves as x does first and then as y does.
func (x thing) then(y thing) thing {
	var product thing
	for i, to := range x {
		product[i] = y[to]
	}
	return product
}

// back is the inverse.
func (x thing) back() thing {
	var inverse thing
	for i, to := range x {
		inverse[to] = uint8(i)
	}
	return inverse
}
