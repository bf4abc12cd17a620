package free_test

import (
	"fmt"
	"math"
	"slices"
	"strings"
	"testing"

	"cayley/api"
)

// wrongWords have the fault that all calls must tell of each.
func wrongWords() []struct {
	w    []int
	want api.Fault
} {
	long := power([]int{1}, api.MaxWord+1)
	return []struct {
		w    []int
		want api.Fault
	}{
		{long, fault(api.ErrMany, 0)},
		{make([]int, api.MaxWord+1), fault(api.ErrMany, 0)},
		{power([]int{1, -1}, api.MaxWord), fault(api.ErrMany, 0)},
		{power([]int{27}, 5*api.MaxWord), fault(api.ErrMany, 0)},
		{append(slices.Clone(long[2:]), 0), fault(api.ErrRange, api.MaxWord-1)},
		{[]int{0}, fault(api.ErrRange, 0)},
		{[]int{27}, fault(api.ErrRange, 0)},
		{[]int{-27}, fault(api.ErrRange, 0)},
		{[]int{27, -27}, fault(api.ErrRange, 0)},
		{[]int{26, -26, 0, 27}, fault(api.ErrRange, 2)},
		{[]int{1, math.MaxInt}, fault(api.ErrRange, 1)},
		{[]int{1, 2, math.MinInt, math.MinInt}, fault(api.ErrRange, 2)},
		{[]int{1, -1, 1 << 32, 0}, fault(api.ErrRange, 2)},
		{[]int{1, 1 + 1<<32}, fault(api.ErrRange, 1)},
		{[]int{257}, fault(api.ErrRange, 0)},
		{[]int{'a'}, fault(api.ErrRange, 0)},
	}
}

func TestFaultsOfOneWord(t *testing.T) {
	for _, wrong := range wrongWords() {
		for name, call := range callsOfOne() {
			same(t, name, call(wrong.w), refused(wrong.want))
		}
	}
}

// TestFaultsOfTwoWords: what is wrong with the first word is told first,
// whatever is wrong with the second one.
func TestFaultsOfTwoWords(t *testing.T) {
	for name, call := range callsOfTwo() {
		for _, first := range wrongWords() {
			for _, right := range [][]int{nil, {1}, {1, -1}, power([]int{2}, api.MaxWord)} {
				same(t, name+" of a wrong word", call(first.w, right), refused(first.want))
				same(t, name+" with a wrong word", call(right, first.w), refused(first.want))
			}
			for _, second := range wrongWords() {
				same(t, name+" of wrong words", call(first.w, second.w), refused(first.want))
			}
		}
	}
}

// TestEveryLetter: those from 1 to 26 and their opposites are letters, no other
// numbers are.
func TestEveryLetter(t *testing.T) {
	for x := -300; x <= 300; x++ {
		want := fault(api.ErrRange, 1)
		if x != 0 && -26 <= x && x <= 26 {
			want = api.Fault{}
		}
		w := []int{25, x, 25} // never the one, which has no root
		for name, call := range callsOfOne() {
			same(t, fmt.Sprint(name, " with ", x), call(w).f, want)
		}
		for name, call := range callsOfTwo() {
			same(t, fmt.Sprint(name, " with ", x), call(w, w).f, want)
		}
	}
}

// TestWholeWordsAreRight: of MaxWord letters no call finds fault.
func TestWholeWordsAreRight(t *testing.T) {
	for seed := range 5 {
		w := strewn(api.MaxWord, 26, seed)
		for name, call := range callsOfOne() {
			same(t, name, call(w).f, api.Fault{})
		}
		for name, call := range callsOfTwo() {
			same(t, name, call(w, w).f, api.Fault{})
		}
	}
}

func TestFaultsOfTexts(t *testing.T) {
	full := strings.Repeat("q", api.MaxWord)
	for _, c := range []struct {
		text string
		want api.Fault
	}{
		{full + "q", fault(api.ErrMany, 0)},
		{strings.Repeat("1", api.MaxWord+1), fault(api.ErrMany, 0)},
		{strings.Repeat(" ", 5*api.MaxWord), fault(api.ErrMany, 0)},
		{full[1:] + "1", fault(api.ErrText, api.MaxWord-1)},
		{full[1:] + "é", fault(api.ErrMany, 0)},
		{full[2:] + "é", fault(api.ErrText, api.MaxWord-2)},
		{"", fault(api.ErrText, 0)},
		{"11", fault(api.ErrText, 0)},
		{"1a", fault(api.ErrText, 0)},
		{"a1", fault(api.ErrText, 1)},
		{" ", fault(api.ErrText, 0)},
		{" 1", fault(api.ErrText, 0)},
		{"1 ", fault(api.ErrText, 0)},
		{"a b", fault(api.ErrText, 1)},
		{"ab\n", fault(api.ErrText, 2)},
		{"é", fault(api.ErrText, 0)},
		{"abé1", fault(api.ErrText, 2)},
		{"aB\xff\x00", fault(api.ErrText, 2)},
	} {
		same(t, fmt.Sprintf("Parse of %.10q", c.text), parse(c.text), refused(c.want))
	}
}

// TestEveryByte: of all texts of one byte, those of letters and 1 are words.
func TestEveryByte(t *testing.T) {
	right := 0
	for b := range 256 {
		one, two := string([]byte{byte(b)}), string([]byte{'c', byte(b)})
		is := 'a' <= b && b <= 'z' || 'A' <= b && b <= 'Z'
		switch {
		case is:
			right++
			same(t, "one letter", len(parse(one).word), 1)
			same(t, "two letters", len(parse(two).word), 2)
		case b == '1':
			same(t, "the one", parse(one), answer{})
			same(t, "the one behind a letter", parse(two), refused(fault(api.ErrText, 1)))
		default:
			same(t, "no letter", parse(one), refused(fault(api.ErrText, 0)))
			same(t, "no letter behind a letter", parse(two), refused(fault(api.ErrText, 1)))
		}
	}
	same(t, "how many letters there are", right, 52)
}

// TestOnlyRead: no call writes to what it is given, nor behind its length, nor
// reads what stands there.
func TestOnlyRead(t *testing.T) {
	behind := []int{1, 2, 2, -1, 77, 78}
	kept := slices.Clone(behind)
	w, exact := behind[:4], slices.Clone(behind[:4])
	for name, call := range callsOfOne() {
		same(t, name, call(w), call(exact))
		same(t, name+": what was handed in", behind, kept)
	}
	for name, call := range callsOfTwo() {
		same(t, name, call(w, w), call(exact, exact))
		same(t, name, call(behind[1:3], w), call([]int{2, 2}, exact))
		same(t, name+": what was handed in", behind, kept)
	}
}
