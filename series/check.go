package series

import (
	"slices"

	"cayley/api"
	"cayley/quot"
	"cayley/set"
	"cayley/sub"
)

// checked is what is wrong with the sets of l, each by itself, as those of a
// series of g, in which nothing is wrong. A list that is no set is no subgroup.
func checked(g api.Group, l [][]int) api.Fault {
	if len(l) < 1 || len(l) > maxSets {
		return api.Fault{Code: api.ErrMany}
	}
	if len(l[0]) != g.N || len(l[len(l)-1]) != 1 {
		return api.Fault{Code: api.ErrSize}
	}
	for i, s := range l {
		if is, f := sub.Is(g, s); f.Code != api.OK || !is {
			return api.Fault{Code: api.ErrForm, At: i}
		}
	}
	return api.Fault{}
}

// checkedStep is the code of what is wrong with the subgroup l as the one
// behind the subgroup ahead.
func checkedStep(g api.Group, ahead, l []int) int {
	if !set.Of(l...).In(set.Of(ahead...)) {
		return api.ErrFalse
	}
	whole, f := quot.Part(g, ahead)
	if f.Code != api.OK {
		return f.Code
	}
	quotient, _, f := quot.Quotient(whole, places(ahead, l))
	if f.Code != api.OK { // ErrKind, if l is not normal
		return f.Code
	}
	simple, f := quot.Simple(quotient)
	if f.Code != api.OK {
		return f.Code
	}
	if !simple {
		return api.ErrNone
	}
	return api.OK
}

// places has of each thing of l, which is in ahead, where it stands there.
func places(ahead, l []int) []int {
	out := make([]int, len(l))
	for i, a := range l {
		out[i] = slices.Index(ahead, a)
	}
	return out
}
