package field_test

import (
	"fmt"
	"math"
	"slices"
	"testing"

	"cayley/field"
)

// primes are those below n: what no lesser prime divides.
func primes(n int) []int {
	var out []int
	for p := 2; p < n; p++ {
		if !slices.ContainsFunc(out, func(q int) bool { return p%q == 0 }) {
			out = append(out, p)
		}
	}
	return out
}

func TestPrime(t *testing.T) {
	known := primes(2000)
	for n := -10; n < 2000; n++ {
		if got, want := field.Prime(n), slices.Contains(known, n); got != want {
			t.Errorf("%d: %v, want %v", n, got, want)
		}
	}
	for n, want := range map[int]bool{math.MinInt: false, math.MaxInt32: true, math.MaxInt: false, 46337 * 46337: false} {
		if got := field.Prime(n); got != want {
			t.Errorf("%d: %v, want %v", n, got, want)
		}
	}
}

func TestMod(t *testing.T) {
	for _, p := range primes(50) {
		f := field.Field{P: p}
		for a := -3 * p; a < 3*p; a++ {
			left := f.Mod(a)
			if left < 0 || left >= p || (a-left)%p != 0 {
				t.Errorf("%d by %d: %d", a, p, left)
			}
		}
	}
}

func TestInverse(t *testing.T) {
	for _, p := range append(primes(400), math.MaxInt32) {
		f := field.Field{P: p}
		for a := 1; a < min(p, 400); a++ {
			for _, b := range []int{a, p - a} {
				if got := f.Inverse(b); got < 1 || got >= p || got*b%p != 1 {
					t.Errorf("of %d by %d: %d", b, p, got)
				}
			}
		}
	}
}

func TestTake(t *testing.T) {
	for _, p := range primes(50) {
		f := field.Field{P: p}
		for often := range p {
			row, other := []int{0, 1, p - 1, often, 0}, []int{p - 1, 1, often, p / 2, 0}
			var want []int
			for i, a := range other {
				want = append(want, (row[i]+(p-often)*a)%p)
			}
			kept := slices.Clone(other)
			f.Take(row, often, other)
			if !slices.Equal(row, want) || !slices.Equal(other, kept) {
				t.Errorf("%d times %v by %d: %v, want %v", often, other, p, row, want)
			}
		}
	}
}

// taken is how a matrix takes a list.
func taken(f field.Field, rows [][]int, list []int) []int {
	out := make([]int, len(rows))
	for i, row := range rows {
		for k, a := range row {
			out[i] = f.Mod(out[i] + a*list[k])
		}
	}
	return out
}

// combined are all that lists make, by adding multiples of them.
func combined(f field.Field, lists [][]int, width int) [][]int {
	out := [][]int{make([]int, width)}
	for _, list := range lists {
		var more [][]int
		for _, sum := range out {
			for n := range f.P {
				next := slices.Clone(sum)
				for i := range next {
					next[i] = f.Mod(next[i] + n*list[i])
				}
				more = append(more, next)
			}
		}
		out = more
	}
	return out
}

// TestKernel: held against all that the space makes, asked one by one.
func TestKernel(t *testing.T) {
	space := [][]int{{1, 0, 0, 2}, {0, 1, 0, 1}, {0, 0, 1, 1}}
	for _, p := range []int{3, 5, 7} {
		f := field.Field{P: p}
		for code := range 625 {
			rows := [][]int{{code % 5, code / 5 % 5, 1, 0}, {code / 25 % 5, code / 125, 0, 1}, {code % 5, 0, 0, code / 125}}
			move := func(list []int) []int { return taken(f, rows, list) }
			var want [][]int
			for _, list := range combined(f, space, 4) {
				if !slices.ContainsFunc(move(list), func(a int) bool { return a != 0 }) {
					want = append(want, list)
				}
			}
			got := combined(f, f.Kernel(space, move), 4)
			slices.SortFunc(got, slices.Compare)
			slices.SortFunc(want, slices.Compare)
			if fmt.Sprint(got) != fmt.Sprint(want) {
				t.Errorf("%v by %d: %v, want %v", rows, p, got, want)
			}
		}
	}
	if fmt.Sprint(space) != "[[1 0 0 2] [0 1 0 1] [0 0 1 1]]" {
		t.Errorf("the space was changed: %v", space)
	}
}

func TestKernelOfNothing(t *testing.T) {
	f := field.Field{P: 5}
	if got := f.Kernel(nil, func(list []int) []int { return []int{1} }); len(got) != 0 {
		t.Errorf("of no lists: %v", got)
	}
	all := f.Kernel([][]int{{1, 0}, {0, 1}}, func(list []int) []int { return nil })
	if fmt.Sprint(all) != "[[1 0] [0 1]]" {
		t.Errorf("moved to lists without numbers: %v", all)
	}
}
