package set_test

import (
	"fmt"
	"slices"
	"testing"

	"cayley/set"
)

func same(t *testing.T, what string, got, want any) {
	t.Helper()
	if fmt.Sprint(got) != fmt.Sprint(want) {
		t.Errorf("%s: %v, want %v", what, got, want)
	}
}

func TestListsAndBits(t *testing.T) {
	same(t, "nothing", set.Of(), 0)
	same(t, "nothing", set.Of().List(), "[]")
	same(t, "twice", set.Of(3, 1, 3), 10)
	for _, l := range [][]int{{0}, {59}, {63}, {0, 63}, {1, 2, 5, 58, 59}} {
		s := set.Of(l...)
		same(t, "list", s.List(), l)
		same(t, "how many", s.Len(), len(l))
		for a := range 64 {
			same(t, fmt.Sprint(a, " of ", l), s.Has(a), slices.Contains(l, a))
		}
	}
	full := set.Set(1<<64 - 1)
	same(t, "how many", []int{set.Of().Len(), full.Len(), len(full.List())}, "[0 64 64]")
}

func TestListIsNew(t *testing.T) {
	s := set.Of(2, 4)
	s.List()[0] = 9
	same(t, "list", s.List(), "[2 4]")
}

func TestIn(t *testing.T) {
	for s := range set.Set(16) {
		for other := range set.Set(16) {
			want := true
			for _, a := range s.List() {
				want = want && other.Has(a)
			}
			same(t, fmt.Sprint(s.List(), " in ", other.List()), s.In(other), want)
		}
	}
}
