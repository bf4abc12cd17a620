package chain

import (
	"slices"

	"cayley/nat"
)

// level is a group whose things move none of the points of the levels ahead.
type level struct {
	point   uint8
	makers  []thing         // their products are the group
	reached []uint8         // the points to which point can be moved, as they were found
	ways    map[uint8]thing // of each of these: one of the group that moves point there
}

// levels have each point once. What moves none of the points of the first k of
// them is the group of the next one. Each level's things are, each once, one of
// the next level's and then one of its ways.
type levels []level

// levelsOf is the group of l, with the points first that are named.
func levelsOf(l [][]int, first []int) levels {
	points := slices.Clone(first)
	for x := range l[0] {
		if !slices.Contains(first, x) {
			points = append(points, x)
		}
	}
	c := make(levels, len(points))
	for i, x := range points {
		point := uint8(x)
		c[i] = level{point: point, reached: []uint8{point}, ways: map[uint8]thing{point: stays()}}
	}
	for _, p := range l {
		c.take(thingOf(p))
	}
	return c
}

// has: is x, which moves no point of the levels ahead, in the first group of c?
func (c levels) has(x thing) bool {
	for _, at := range c {
		way, there := at.ways[x[at.point]]
		if !there {
			return false
		}
		x = x.then(way.back())
	}
	return true
}

// take makes the first group of c so great that x is in it.
func (c levels) take(x thing) {
	if c.has(x) {
		return
	}
	at := &c[0]
	at.makers = append(at.makers, x)
	// Ways that are found meanwhile are not gone through here: where they are
	// found they are followed by all makers, by x too.
	for _, to := range at.reached {
		c.follow(at.ways[to].then(x))
	}
}

// follow takes a product of a way and a maker: it is a way to a point that was
// not reached so far, or (Schreier) tells what must be in the next group.
func (c levels) follow(x thing) {
	at := &c[0]
	to := x[at.point]
	if way, there := at.ways[to]; there {
		c[1:].take(x.then(way.back()))
		return
	}
	at.reached = append(at.reached, to)
	at.ways[to] = x
	for _, maker := range at.makers {
		c.follow(x.then(maker))
	}
}

// size is how many things the first group of c has, in decimal.
func (c levels) size() string {
	things := nat.Of(1)
	for _, at := range c {
		things = things.TimesPlus(uint64(len(at.ways)), 0)
	}
	return things.Decimal()
}
