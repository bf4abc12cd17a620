package act_test

import (
	"fmt"
	"math/big"
	"slices"
	"strings"
	"testing"

	"cayley/act"
	"cayley/api"
)

// orbitsOf are the sets of points to which the things move a point.
func orbitsOf(k known) [][]int {
	out := [][]int{}
	for x := range k.l[0] {
		orbit := []int{}
		for y := range k.l[0] {
			if slices.ContainsFunc(k.things, func(p []int) bool { return p[x] == y }) {
				orbit = append(orbit, y)
			}
		}
		if orbit[0] == x {
			out = append(out, orbit)
		}
	}
	return out
}

func TestOrbits(t *testing.T) {
	for _, k := range few() {
		same(t, fmt.Sprint(k.l), told(act.Orbits(k.l)), right(orbitsOf(k)))
	}
}

// TestBlocks: the way that is told is one of those that there are, and each
// other one with a and b in one set has greater sets.
func TestBlocks(t *testing.T) {
	for _, k := range few() {
		ways := waysOf(k)
		for a := range k.l[0] {
			for b := range k.l[0] {
				var finest []int
				for _, way := range ways {
					if way[a] == way[b] && (finest == nil || finer(way, finest)) {
						finest = way
					}
				}
				for _, way := range ways {
					if way[a] == way[b] && !finer(finest, way) {
						t.Fatalf("%v has no finest way for %d and %d", k.l, a, b)
					}
				}
				same(t, fmt.Sprint(k.l, a, b), told(act.Blocks(k.l, a, b)), right(setsOf(finest)))
			}
		}
	}
}

func TestPrimitive(t *testing.T) {
	count := map[bool]int{}
	for _, k := range few() {
		points := len(k.l[0])
		only := !slices.ContainsFunc(waysOf(k), func(way []int) bool {
			sets := setsOf(way)
			return len(sets) > 1 && len(sets) < points
		})
		want := len(orbitsOf(k)) == 1 && only
		same(t, fmt.Sprint(k.l), told(act.Primitive(k.l)), right(want))
		count[want]++
	}
	if count[true] < 50 || count[false] < 50 {
		t.Errorf("too few of one kind: %v", count)
	}
}

func TestPrimitiveThatAreKnown(t *testing.T) {
	for _, c := range []struct {
		name string
		l    [][]int
		want bool
	}{
		{"no points", [][]int{{}}, false},
		{"no points, twice", [][]int{nil, {}}, false},
		{"one point", [][]int{{0}}, true},
		{"two that stay", [][]int{{0, 1}}, false},
		{"two", [][]int{{1, 0}}, true},
		{"three, one stays", [][]int{{1, 0, 2}}, false},
		{"cycle of four", [][]int{ofShape(4)}, false},
		{"four, in two pairs", [][]int{{1, 0, 3, 2}, {2, 3, 0, 1}}, false},
		{"even ones of four", [][]int{{1, 2, 0, 3}, {1, 0, 3, 2}}, true},
		{"all of 100", [][]int{ofShape(100), ofShape(append([]int{2}, slices.Repeat([]int{1}, 98)...)...)}, true},
		{"cycle of 97", [][]int{ofShape(97)}, true},
		{"cycle of 91", [][]int{ofShape(91)}, false},
		{"two orbits, each primitive", [][]int{ofShape(5, 7)}, false},
	} {
		same(t, c.name, told(act.Primitive(c.l)), right(c.want))
	}
}

func TestFixes(t *testing.T) {
	for _, k := range few() {
		for x := range k.l[0] {
			want := []int{}
			for i, p := range k.things {
				if p[x] == x {
					want = append(want, i)
				}
			}
			same(t, fmt.Sprint(k.l, x), told(act.Fixes(k.l, x)), orMuch("Fixes", k, want))
		}
	}
}

// orMuch is what must be answered, if the things are not too many.
func orMuch(name string, k known, want any) answer {
	if len(k.things) > 60 {
		return refused(name, fault(api.ErrMuch, 0))
	}
	return right(want)
}

func TestIndex(t *testing.T) {
	for _, k := range few() {
		want := make([]int, len(k.l[0])+1)
		for _, p := range k.things {
			want[cyclesIn(p)]++
		}
		same(t, fmt.Sprint(k.l), told(act.Index(k.l)), orMuch("Index", k, want))
	}
}

// TestColours goes through all colourings and counts those that are the least
// of what they are moved to.
func TestColours(t *testing.T) {
	for _, k := range few() {
		for colours := range 4 {
			if len(k.things) > 60 {
				same(t, "much", told(act.Colours(k.l, colours)), refused("Colours", fault(api.ErrMuch, 0)))
				continue
			}
			count := 0
			for _, colouring := range everyColouring(len(k.l[0]), colours) {
				if !slices.ContainsFunc(k.things, func(p []int) bool { return slices.Compare(recoloured(p, colouring), colouring) < 0 }) {
					count++
				}
			}
			same(t, fmt.Sprint(k.l, colours), told(act.Colours(k.l, colours)), right(count))
		}
	}
}

// tenTo is 10 to the power of n.
func tenTo(n int) string { return "1" + strings.Repeat("0", n) }

func TestColoursThatAreLong(t *testing.T) {
	same(t, "nothing moves", told(act.Colours([][]int{stays(1000)}, 1000)), right(tenTo(3000)))
	same(t, "nothing moves", told(act.Colours([][]int{stays(1000)}, 10)), right(tenTo(1000)))
	same(t, "nothing moves", told(act.Colours([][]int{stays(1000)}, 1)), right("1"))
	same(t, "nothing moves", told(act.Colours([][]int{stays(1000)}, 0)), right("0"))
	for _, shape := range [][]int{{60}, {3, 4, 5}, {3, 4, 5, 60}, slices.Repeat([]int{50}, 20), append([]int{4, 7}, slices.Repeat([]int{1}, 989)...), append([]int{59}, slices.Repeat([]int{1}, 941)...)} {
		l := [][]int{ofShape(shape...)}
		group := things(l)
		for _, k := range []int{0, 1, 2, 3, 10, 999, 1000} {
			sum := new(big.Int)
			for _, p := range group {
				sum.Add(sum, new(big.Int).Exp(big.NewInt(int64(k)), big.NewInt(int64(cyclesIn(p))), nil))
			}
			want, left := new(big.Int).DivMod(sum, big.NewInt(int64(len(group))), new(big.Int))
			same(t, "left", left, 0)
			same(t, fmt.Sprint(shape[:1], k), told(act.Colours(l, k)), right(want))
		}
	}
}

func TestColoursOfNoPoints(t *testing.T) {
	for _, k := range []int{0, 1, 2, 1000} {
		same(t, fmt.Sprint(k), told(act.Colours([][]int{{}}, k)), right("1"))
	}
	same(t, "index", told(act.Index([][]int{nil, {}})), right("[1]"))
	same(t, "orbits", told(act.Orbits([][]int{{}})), right("[]"))
	same(t, "same", told(act.Same([][]int{{}}, nil, []int{})), right(true))
}

func TestSame(t *testing.T) {
	for i, k := range few() {
		points := len(k.l[0])
		if points > 4 || points == 4 && i%5 > 0 {
			continue
		}
		for _, a := range everyColouring(points, 2) {
			for _, b := range everyColouring(points, 2) {
				want := slices.ContainsFunc(k.things, func(p []int) bool { return slices.Equal(recoloured(p, a), b) })
				same(t, fmt.Sprint(k.l, a, b), told(act.Same(k.l, a, b)), right(want))
			}
		}
	}
}

// TestSameOfOtherColours: where each point has a colour of its own, whatever
// number that is, only things of the group move it to what they make of it.
func TestSameOfOtherColours(t *testing.T) {
	for _, k := range few() {
		points := len(k.l[0])
		a := []int{-1 << 63, 1<<63 - 1, 0, -7, 1000, 5}[:points]
		if len(k.things) > 60 {
			same(t, "much", told(act.Same(k.l, a, a)), refused("Same", fault(api.ErrMuch, 0)))
			continue
		}
		for i, p := range all(points) {
			if i%max(1, points*points-15) > 0 {
				continue // some of many
			}
			want := slices.ContainsFunc(k.things, func(q []int) bool { return slices.Equal(p, q) })
			same(t, fmt.Sprint(k.l, p), told(act.Same(k.l, a, recoloured(p, a))), right(want))
		}
	}
}

// TestOrbitsTimesFixes: the points of an orbit times the things that fix one
// are all things.
func TestOrbitsTimesFixes(t *testing.T) {
	for _, k := range few() {
		orbits, _ := act.Orbits(k.l)
		for _, orbit := range orbits {
			for _, x := range orbit {
				fixes, f := act.Fixes(k.l, x)
				if len(k.things) > 60 {
					same(t, "much", f, fault(api.ErrMuch, 0))
					continue
				}
				same(t, fmt.Sprint(k.l, x), len(orbit)*len(fixes), len(k.things))
			}
		}
	}
}

// TestCauchyFrobenius: the number of orbits is the average of how many points
// are not moved.
func TestCauchyFrobenius(t *testing.T) {
	for _, k := range few() {
		if len(k.things) > 60 {
			continue
		}
		fixed := 0
		for x := range k.l[0] {
			fixes, _ := act.Fixes(k.l, x)
			fixed += len(fixes)
		}
		orbits, _ := act.Orbits(k.l)
		same(t, fmt.Sprint(k.l), fixed, len(orbits)*len(k.things))
	}
}

// TestPrimitiveByBlocks: what is asked at once is what Orbits and Blocks tell.
func TestPrimitiveByBlocks(t *testing.T) {
	for n := 2; n <= 40; n++ {
		for _, l := range [][][]int{{ofShape(n)}, {ofShape(n), turned(n)}, {ofShape(n-1, 1), turned(n)}} {
			orbits, _ := act.Orbits(l)
			want := len(orbits) == 1
			for a := range n {
				for b := range a {
					blocks, _ := act.Blocks(l, a, b)
					want = want && len(blocks) == 1
				}
			}
			same(t, fmt.Sprint(l), told(act.Primitive(l)), right(want))
		}
	}
}

// TestManyPoints: as many as may be, and groups beyond all bounds.
func TestManyPoints(t *testing.T) {
	turn := ofShape(1000)
	same(t, "one orbit", told(act.Orbits([][]int{turn})), right([][]int{stays(1000)}))
	for _, c := range []struct{ a, b, sets int }{{0, 1, 1}, {0, 2, 2}, {999, 0, 1}, {3, 503, 500}, {40, 15, 25}, {7, 7, 1000}, {990, 190, 200}} {
		blocks, f := act.Blocks([][]int{turn}, c.a, c.b)
		same(t, "fault", f, api.Fault{})
		same(t, fmt.Sprint(c), len(blocks), c.sets)
		for i, set := range blocks {
			for j, x := range set {
				if x != i+j*c.sets {
					t.Fatalf("%v: set %d has %d", c, i, x)
				}
			}
		}
	}
	same(t, "1000", told(act.Primitive([][]int{turn})), right(false))
	many := [][]int{}
	for i := 1; i <= 20; i++ {
		p := []int{}
		for x := range 997 {
			p = append(p, x*i%997)
		}
		many = append(many, p)
	}
	same(t, "0 stays", told(act.Primitive(many)), right(false))
	many[0] = ofShape(997)
	same(t, "997", told(act.Primitive(many)), right(true))
	same(t, "997", told(act.Orbits(many)), right([][]int{stays(997)}))
}

func TestExamplesOfTheChapter(t *testing.T) {
	same(t, "1 2 3 0 with 2", told(act.Colours([][]int{{1, 2, 3, 0}}, 2)), right("6"))
	same(t, "bracelets", told(act.Colours([][]int{ofShape(6), turned(6)}, 2)), right("13"))
}

// TestAnswersAreNew: what is done to an answer touches no argument, no other
// list and no later answer.
func TestAnswersAreNew(t *testing.T) {
	l := [][]int{{1, 0, 2, 3, 4, 5}, {0, 1, 3, 2, 5, 4}}
	before := fmt.Sprint(l)
	for name, call := range map[string]func() ([][]int, api.Fault){
		"Orbits": func() ([][]int, api.Fault) { return act.Orbits(l) },
		"Blocks": func() ([][]int, api.Fault) { return act.Blocks(l, 2, 4) },
	} {
		sets, _ := call()
		first := fmt.Sprint(sets)
		for _, set := range sets {
			_ = append(set, -9, -9, -9, -9)
		}
		same(t, name+" grown", sets, first)
		for i, set := range sets {
			for j := range set {
				set[j] = -9 - i
			}
		}
		for i, set := range sets {
			for _, x := range set {
				same(t, name+" changed", x, -9-i)
			}
		}
		same(t, name+" again", told(call()), right(first))
	}
	for name, call := range map[string]func() ([]int, api.Fault){
		"Fixes": func() ([]int, api.Fault) { return act.Fixes(l, 0) },
		"Index": func() ([]int, api.Fault) { return act.Index(l) },
	} {
		got, _ := call()
		first := fmt.Sprint(got)
		for i := range got {
			got[i] = -9
		}
		same(t, name+" again", told(call()), right(first))
	}
	same(t, "arguments", l, before)
}
