package perm_test

import (
	"fmt"
	"math"
	"slices"
	"testing"

	"cayley/api"
	"cayley/perm"
)

func fault(code, at int) api.Fault { return api.Fault{Code: code, At: at} }

// same holds two answers against each other; an empty list is a nil list.
func same(t *testing.T, what string, got, want any) {
	t.Helper()
	if fmt.Sprint(got) != fmt.Sprint(want) {
		t.Errorf("%s: %v, want %v", what, got, want)
	}
}

// fine is what is answered, where there must be no fault.
func fine[T any](t *testing.T, what string, call func() (T, api.Fault)) T {
	t.Helper()
	got, f := call()
	if f != (api.Fault{}) {
		t.Fatalf("%s: fault %v", what, f)
	}
	return got
}

// all has the permutations of n points, rising.
func all(n int) [][]int {
	out := [][]int{}
	var grow func(ahead []int)
	grow = func(ahead []int) {
		if len(ahead) == n {
			out = append(out, slices.Clone(ahead))
			return
		}
		for x := range n {
			if !slices.Contains(ahead, x) {
				grow(append(ahead, x))
			}
		}
	}
	grow(make([]int, 0, n))
	return out
}

// product moves as p and then as q does, without the program.
func product(p, q []int) []int {
	out := []int{}
	for _, x := range p {
		out = append(out, q[x])
	}
	return out
}

func stays(n int) []int {
	out := []int{}
	for i := range n {
		out = append(out, i)
	}
	return out
}

// falling has the points n - 1 to 0.
func falling(n int) []int {
	out := stays(n)
	slices.Reverse(out)
	return out
}

// ofShape has cycles of these lengths, one behind the other.
func ofShape(lengths ...int) []int {
	out := []int{}
	for _, length := range lengths {
		from := len(out)
		for i := range length {
			out = append(out, from+(i+1)%length)
		}
	}
	return out
}

// answer is what a call answers, as a text, and its fault.
type answer struct {
	text string
	f    api.Fault
}

func told[T any](got T, f api.Fault) answer { return answer{fmt.Sprint(got), f} }

// right is the answer that tells this, without a fault.
func right(what any) answer { return answer{fmt.Sprint(what), api.Fault{}} }

// singles are all calls of one permutation.
func singles() map[string]func(p []int) answer {
	return map[string]func(p []int) answer{
		"Check":   func(p []int) answer { return answer{"[]", perm.Check(p)} },
		"Inv":     func(p []int) answer { return told(perm.Inv(p)) },
		"Pow":     func(p []int) answer { return told(perm.Pow(p, 2)) },
		"Pow -":   func(p []int) answer { return told(perm.Pow(p, math.MinInt)) },
		"Pow +":   func(p []int) answer { return told(perm.Pow(p, math.MaxInt)) },
		"Cycles":  func(p []int) answer { return told(perm.Cycles(p)) },
		"Shape":   func(p []int) answer { return told(perm.Shape(p)) },
		"Order":   func(p []int) answer { return told(perm.Order(p)) },
		"Sign":    func(p []int) answer { return told(perm.Sign(p)) },
		"Text":    func(p []int) answer { return told(perm.Text(p)) },
		"Rank":    func(p []int) answer { return told(perm.Rank(p)) },
		"Next":    func(p []int) answer { return told(perm.Next(p)) },
		"Mul p":   func(p []int) answer { return told(perm.Mul(p, p)) },
		"Conj p":  func(p []int) answer { return told(perm.Conj(p, p)) },
		"Mul 1st": func(p []int) answer { return told(perm.Mul(p, []int{7})) },
		"Mul 2nd": func(p []int) answer { return told(perm.Mul(nil, p)) },
	}
}

// pairs are all calls of two permutations.
func pairs() map[string]func(p, q []int) answer {
	return map[string]func(p, q []int) answer{
		"Mul":  func(p, q []int) answer { return told(perm.Mul(p, q)) },
		"Conj": func(p, q []int) answer { return told(perm.Conj(p, q)) },
	}
}

// emptyOf is the text of what a call answers beside a fault.
func emptyOf(name string) string {
	switch name {
	case "Order", "Text", "Rank":
		return ""
	case "Sign":
		return "0"
	}
	return "[]"
}
