package chain_test

import (
	"fmt"
	"math"
	"slices"
	"testing"

	"cayley/act"
	"cayley/api"
	"cayley/chain"
	"cayley/perm"
)

// wrong is a list with the fault that must be told of it.
type wrong[T any] struct {
	name string
	l    T
	want api.Fault
}

// wrongLists are permutations, wrong in all ways.
func wrongLists() []wrong[[][]int] {
	swap, stay := []int{1, 0}, []int{0, 1}
	many := func(n int, p []int) [][]int { return slices.Repeat([][]int{p}, n) }
	return []wrong[[][]int]{
		{"nil", nil, fault(api.ErrMany, 0)},
		{"none", [][]int{}, fault(api.ErrMany, 0)},
		{"21", many(21, swap), fault(api.ErrMany, 0)},
		{"21 without points", many(21, nil), fault(api.ErrMany, 0)},
		{"21 wrong ones", many(21, []int{7}), fault(api.ErrMany, 0)},
		{"range", [][]int{{2, 0}}, fault(api.ErrRange, 0)},
		{"range, not at its place", [][]int{{0, 1, 2, 3, 9}}, fault(api.ErrRange, 0)},
		{"range", [][]int{stay, swap, {0, -1}}, fault(api.ErrRange, 2)},
		{"range", [][]int{swap, {math.MinInt, 0}}, fault(api.ErrRange, 1)},
		{"range", [][]int{swap, {0, math.MaxInt}}, fault(api.ErrRange, 1)},
		{"range by 256", [][]int{swap, {256, 257}}, fault(api.ErrRange, 1)},
		{"twice", [][]int{swap, {0, 0}, {5}}, fault(api.ErrTwice, 1)},
		{"more than 1000 points", [][]int{stays(1001)}, fault(api.ErrMany, 0)},
		{"more than 1000 points", [][]int{swap, stay, stays(1001)}, fault(api.ErrMany, 2)},
		{"size", [][]int{swap, {0}}, fault(api.ErrSize, 1)},
		{"size", [][]int{{}, swap}, fault(api.ErrSize, 1)},
		{"size", append(many(19, swap), []int{0, 1, 2}), fault(api.ErrSize, 19)},
		{"wrong ahead of size", [][]int{swap, {7}}, fault(api.ErrRange, 1)},
		{"more than 24 points", [][]int{stays(25)}, fault(api.ErrMany, 0)},
		{"more than 24 points", many(20, stays(25)), fault(api.ErrMany, 0)},
		{"more than 24 points", many(2, stays(300)), fault(api.ErrMany, 0)},
		{"more than 24 points", [][]int{ofShape(1000)}, fault(api.ErrMany, 0)},
		{"range ahead of 24 points", [][]int{stays(25), {25}}, fault(api.ErrRange, 1)},
		{"twice ahead of 24 points", [][]int{stays(25), stays(25), make([]int, 25)}, fault(api.ErrTwice, 2)},
		{"size ahead of 24 points", [][]int{stays(25), swap}, fault(api.ErrSize, 1)},
		{"size ahead of 24 points", [][]int{swap, stays(25)}, fault(api.ErrSize, 1)},
	}
}

// TestAllTellFirstWhatIsWrongWithThePermutations: whatever else is wrong.
func TestAllTellFirstWhatIsWrongWithThePermutations(t *testing.T) {
	for _, w := range wrongLists() {
		for _, a := range [][]int{nil, {0}, {1, 0}, {-1, -1}, {9, 9, 9}, stays(25), make([]int, 2001), make([]int, 1001)} {
			for name, call := range calls() {
				same(t, name+", "+w.name, call(w.l, a), refused(name, w.want))
			}
		}
	}
}

// TestAsManyPointsAsMayBe: 24 are not too many, nor is none too few.
func TestAsManyPointsAsMayBe(t *testing.T) {
	for _, n := range []int{0, 1, 23, 24} {
		l := slices.Repeat([][]int{stays(n)}, 20)
		same(t, "Order", told(chain.Order(l)), right(1))
		same(t, "Member", told(chain.Member(l, stays(n))), right(true))
		same(t, "Fixed", told(chain.Fixed(l, stays(n))), right(1))
		same(t, "Word", told(chain.Word(l, stays(n))), right("[]"))
		same(t, "Play", told(chain.Play(l, []int{20, -20})), right(stays(n)))
	}
}

func TestFaultsOfOneMore(t *testing.T) {
	for _, l := range [][][]int{{{1, 2, 0}}, {{0, 1, 2}, {1, 0, 2}}} {
		for _, w := range []wrong[[]int]{
			{"range", []int{0, 1, 3}, fault(api.ErrRange, 2)},
			{"range", []int{-1, 1, 1}, fault(api.ErrRange, 0)},
			{"range", []int{0, math.MinInt, 0}, fault(api.ErrRange, 1)},
			{"range", []int{0, 1, math.MaxInt}, fault(api.ErrRange, 2)},
			{"range by 256", []int{256, 257, 258}, fault(api.ErrRange, 0)},
			{"twice", []int{0, 2, 2}, fault(api.ErrTwice, 2)},
			{"twice", []int{1, 1, 7}, fault(api.ErrTwice, 1)},
			{"many", stays(1001), fault(api.ErrMany, 0)},
			{"many, wrong", make([]int, 1001), fault(api.ErrMany, 0)},
			{"size", nil, fault(api.ErrSize, 0)},
			{"size", []int{1, 0}, fault(api.ErrSize, 0)},
			{"size", []int{1, 2, 0, 3}, fault(api.ErrSize, 0)},
			{"size", stays(24), fault(api.ErrSize, 0)},
			{"size", stays(25), fault(api.ErrSize, 0)},
			{"size", stays(1000), fault(api.ErrSize, 0)},
			{"range ahead of size", []int{0, 1, 2, 4}, fault(api.ErrRange, 3)},
			{"twice ahead of size", []int{0, 0}, fault(api.ErrTwice, 1)},
		} {
			same(t, "Member, "+w.name, told(chain.Member(l, w.l)), refused("Member", w.want))
			same(t, "Word, "+w.name, told(chain.Word(l, w.l)), refused("Word", w.want))
		}
	}
	none := [][]int{nil, {}}
	same(t, "of no points", told(chain.Member(none, []int{0})), refused("Member", fault(api.ErrSize, 0)))
	same(t, "of no points", told(chain.Word(none, []int{0})), refused("Word", fault(api.ErrSize, 0)))
}

func TestFaultsOfFixed(t *testing.T) {
	for _, l := range [][][]int{{{1, 2, 0, 3}}, {{0, 1, 2, 3}, {1, 0, 3, 2}}} {
		for _, w := range []wrong[[]int]{
			{"many", []int{0, 1, 2, 3, 0}, fault(api.ErrMany, 0)},
			{"many, wrong", []int{9, 9, 9, 9, 9}, fault(api.ErrMany, 0)},
			{"many", make([]int, 100000), fault(api.ErrMany, 0)},
			{"range", []int{4}, fault(api.ErrRange, 0)},
			{"range", []int{0, 1, 2, -1}, fault(api.ErrRange, 3)},
			{"range", []int{0, math.MinInt, 0}, fault(api.ErrRange, 1)},
			{"range", []int{3, 0, math.MaxInt}, fault(api.ErrRange, 2)},
			{"range by 256", []int{256}, fault(api.ErrRange, 0)},
			{"twice", []int{0, 0}, fault(api.ErrTwice, 1)},
			{"twice", []int{2, 1, 3, 2}, fault(api.ErrTwice, 3)},
			{"twice ahead of range", []int{1, 1, 4}, fault(api.ErrTwice, 1)},
			{"range ahead of twice", []int{1, 4, 1}, fault(api.ErrRange, 1)},
			{"range, twice", []int{1, 4, 4}, fault(api.ErrRange, 1)},
		} {
			same(t, w.name, told(chain.Fixed(l, w.l)), refused("Fixed", w.want))
		}
	}
	same(t, "of no points", told(chain.Fixed([][]int{nil}, []int{0})), refused("Fixed", fault(api.ErrMany, 0)))
	same(t, "of one point", told(chain.Fixed([][]int{{0}}, []int{1})), refused("Fixed", fault(api.ErrRange, 0)))
}

func TestFaultsOfWord(t *testing.T) {
	// Two groups that have few things more than may be.
	three := cycles(24, []int{0, 3, 6}, []int{1, 4, 7}, []int{2, 5, 8})
	threes := [][]int{three, cycles(24, []int{0, 1, 2}), cycles(24, []int{9, 10, 11}), cycles(24, []int{12, 13, 14}), cycles(24, []int{15, 16, 17, 18, 19, 20, 21})}
	same(t, "threes", told(chain.Order(threes)), right(5103))
	five := [][]int{ofShape(5, 1, 1, 1, 1, 1, 1, 1, 1, 1, 1, 1, 1, 1, 1, 1, 1, 1, 1, 1), cycles(24, []int{0, 4}, []int{1, 3})}
	five = append(five, swaps()[3:]...)
	same(t, "five", told(chain.Order(five)), right(5120))
	much := refused("Word", fault(api.ErrMuch, 0))
	for _, l := range [][][]int{threes, five, every(8, 8), every(24, 24), mathieu(), cube(), line(23)} {
		n := len(l[0])
		same(t, "what stays", told(chain.Word(l, stays(n))), much)
		same(t, "a maker", told(chain.Word(l, l[1])), much)
		same(t, "much ahead of none", told(chain.Word(l, cycles(n, []int{n - 2, n - 1}))), much)
		same(t, "size ahead of much", told(chain.Word(l, stays(n-1))), refused("Word", fault(api.ErrSize, 0)))
		same(t, "range ahead of much", told(chain.Word(l, []int{0, 2})), refused("Word", fault(api.ErrRange, 1)))
	}
	none := refused("Word", fault(api.ErrNone, 0))
	same(t, "none", told(chain.Word([][]int{{1, 2, 0}}, []int{1, 0, 2})), none)
	same(t, "none", told(chain.Word([][]int{{0, 1}}, []int{1, 0})), none)
	same(t, "none", told(chain.Word(even(7), []int{1, 0, 2, 3, 4, 5, 6})), none)
	same(t, "none", told(chain.Word(swaps(), ofShape(4, 1, 1, 1, 1, 1, 1, 1, 1, 1, 1, 1, 1, 1, 1, 1, 1, 1, 1, 1, 1))), none)
}

func TestFaultsOfPlay(t *testing.T) {
	for _, n := range []int{1, 2, 20} {
		l := slices.Repeat([][]int{{1, 2, 0}}, n)
		for _, bad := range []int{0, n + 1, -n - 1, 21, -21, math.MinInt, math.MinInt + 1, math.MaxInt, 256, -256, 1 << 32, -1 << 32} {
			for at := range 5 {
				word := slices.Repeat([]int{n, -n}, 4)
				word[at], word[7] = bad, 0
				same(t, fmt.Sprint(word), told(chain.Play(l, word)), refused("Play", fault(api.ErrRange, at)))
			}
		}
		for _, right := range []int{1, n, -1, -n} {
			_, f := chain.Play(l, slices.Repeat([]int{right}, 2000))
			same(t, fmt.Sprint(right), f, api.Fault{})
		}
		same(t, "many", told(chain.Play(l, slices.Repeat([]int{1}, 2001))), refused("Play", fault(api.ErrMany, 0)))
		same(t, "many, wrong", told(chain.Play(l, make([]int, 2001))), refused("Play", fault(api.ErrMany, 0)))
		last := append(slices.Repeat([]int{-1}, 1999), 0)
		same(t, "the last", told(chain.Play(l, last)), refused("Play", fault(api.ErrRange, 1999)))
	}
}

// TestWhateverIsGiven goes through short lists of right and wrong numbers: no
// call may panic, each must answer alike twice, and with the first fault.
func TestWhateverIsGiven(t *testing.T) {
	lists := [][]int{nil}
	for from := 0; len(lists[from]) < 2; from++ {
		for _, x := range []int{math.MinInt, -1, 0, 1, 2, math.MaxInt} {
			lists = append(lists, append(slices.Clone(lists[from]), x))
		}
	}
	for _, p := range lists {
		for _, q := range lists {
			for _, l := range [][][]int{{p}, {p, q}, {p, p, q}} {
				makers, one := act.Check(l), perm.Check(q)
				for name, call := range calls() {
					got := call(l, q)
					same(t, name, call(l, q), got)
					switch {
					case makers.Code != api.OK:
						same(t, fmt.Sprint(name, l, q), got, refused(name, makers))
					case one.Code != api.OK && (name == "Member" || name == "Word"):
						same(t, fmt.Sprint(name, l, q), got, refused(name, one))
					}
				}
			}
		}
	}
}

// TestListsAreOnlyRead: neither what is handed in changes, nor what lies behind
// it, and that is not read.
func TestListsAreOnlyRead(t *testing.T) {
	memory := []int{1, 0, 2, 3, 77, 1, 2, 3, 0, 77, 3, 0, 1, 2, 77}
	lists := [][]int{memory[0:4], memory[5:9], {9}, {9, 9}}
	behind := func(x int) {
		for i := 4; i < len(memory); i += 5 {
			memory[i] = x
		}
	}
	for _, asked := range [][]int{memory[10:14], memory[11:13], memory[12:14]} {
		for name, call := range calls() {
			first := call(lists[:2], asked)
			same(t, name+" changed", memory, "[1 0 2 3 77 1 2 3 0 77 3 0 1 2 77]")
			behind(1)
			same(t, name+" reads behind", call(lists[:2], asked), first)
			behind(77)
			same(t, name+" changed the lists", lists[2:], "[[9] [9 9]]")
		}
	}
}
