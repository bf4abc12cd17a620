package matrix_test

import (
	"fmt"
	"strconv"
	"testing"

	"cayley/api"
)

// turnsOf is how often m has to be taken to be the one, counted turn by turn.
func turnsOf(p int, m [][]int) int {
	n := 1
	one := fmt.Sprint(ones(len(m)))
	for now := m; fmt.Sprint(now) != one; now = product(p, now, m) {
		n++
	}
	return n
}

func TestOrderOfAll(t *testing.T) {
	for _, k := range small() {
		lists := permutations(k.n)
		for m := range all(k.p, k.n) {
			if sumOf(k.p, m, lists) != 0 {
				same(t, fmt.Sprint("Order of ", m, " by ", k.p), order(k.p, m), answer{text: strconv.Itoa(turnsOf(k.p, m))})
			}
		}
	}
}

func TestOrderOfSome(t *testing.T) {
	by := &chance{state: 10}
	for _, k := range []kind{{2, 5}, {2, 6}, {3, 4}, {3, 5}, {3, 6}, {5, 3}, {5, 4}, {7, 3}, {11, 3}, {13, 3}, {31, 2}, {97, 2}} {
		for range 10 {
			m := by.regular(k, by.order(k.n))
			same(t, fmt.Sprint("Order of ", m, " by ", k.p), order(k.p, m), answer{text: strconv.Itoa(turnsOf(k.p, m))})
		}
	}
	for _, w := range permutations(6) {
		same(t, fmt.Sprint("Order of ", w), order(97, placed(w)), answer{text: strconv.Itoa(turnsOf(97, placed(w)))})
	}
}

// often is m, n times.
func often(p int, m [][]int, n int) [][]int {
	out := ones(len(m))
	for ; n > 0; n /= 2 {
		if n%2 == 1 {
			out = product(p, out, m)
		}
		m = product(p, m, m)
	}
	return out
}

// isOrder: is m the one after n times, and after n by no prime's times?
func isOrder(t *testing.T, p int, m [][]int, n int) {
	t.Helper()
	one := ones(len(m))
	same(t, fmt.Sprint(m, " by ", p, ", ", n, " times"), often(p, m, n), one)
	left := n
	for q := 2; left > 1; q++ {
		if q > left/q {
			q = left
		}
		if left%q > 0 {
			continue
		}
		for left%q == 0 {
			left /= q
		}
		if fmt.Sprint(often(p, m, n/q)) == fmt.Sprint(one) {
			t.Errorf("%v by %d is the one after %d times, not %d", m, p, n/q, n)
		}
	}
}

// TestOrder holds long orders against what makes them the least.
func TestOrder(t *testing.T) {
	by := &chance{state: 11}
	for _, k := range kinds() {
		for range 3 {
			m := by.regular(k, by.order(k.n))
			got := order(k.p, m)
			n, err := strconv.Atoi(got.text)
			if err != nil || n < 1 || got.f != (api.Fault{}) {
				t.Fatalf("Order of %v by %d: %v", m, k.p, got)
			}
			isOrder(t, k.p, m, n)
		}
	}
}

// companion is the matrix whose powers are taken as the numbers' polynomial says.
func companion(numbers []int) [][]int {
	n := len(numbers)
	m := rowsOf(make([]int, n*n), n)
	for i := range n - 1 {
		m[i][i+1] = 1
	}
	copy(m[n-1], numbers)
	return m
}

// TestLongestOrder: an order is at most p^n - 1, and each p and n has one.
func TestLongestOrder(t *testing.T) {
	by := &chance{state: 12}
	for _, k := range kinds() {
		longest := 1
		for range k.n {
			longest *= k.p
		}
		longest--
		found := false
		for try := 0; try < 2000 && !found; try++ {
			numbers := by.numbers(k.n, k.p)
			numbers[0] = 1 + by.below(k.p-1)
			got := order(k.p, companion(numbers))
			n, err := strconv.Atoi(got.text)
			if err != nil || n > longest {
				t.Fatalf("Order of %v by %d: %v", companion(numbers), k.p, got)
			}
			found = n == longest
		}
		if !found {
			t.Errorf("no Order %d by %d", longest, k.p)
		}
	}
}

// TestOrderOfPower: what has 1 in the diagonal and above it has, as its order, the
// least power of p that is not below n.
func TestOrderOfPower(t *testing.T) {
	for _, k := range kinds() {
		m := ones(k.n)
		for i := range k.n - 1 {
			m[i][i+1] = 1
		}
		want := 1
		for want < k.n {
			want *= k.p
		}
		same(t, fmt.Sprint("Order of ", m, " by ", k.p), order(k.p, m), answer{text: strconv.Itoa(want)})
	}
}

// TestSizeCounted: as many as there are.
func TestSizeCounted(t *testing.T) {
	for _, k := range small() {
		lists, count := permutations(k.n), 0
		for m := range all(k.p, k.n) {
			if sumOf(k.p, m, lists) != 0 {
				count++
			}
		}
		same(t, fmt.Sprint("Size of ", k), size(k.p, k.n), answer{text: strconv.Itoa(count)})
	}
}

func TestSize(t *testing.T) {
	for _, k := range kinds() {
		same(t, fmt.Sprint("Size of ", k), size(k.p, k.n), answer{text: sizeOf(k.p, k.n).String()})
	}
	for k, want := range map[kind]string{
		{2, 1}: "1", {2, 4}: "20160", {2, 5}: "9999360", {2, 6}: "20158709760",
		{3, 3}: "11232", {3, 4}: "24261120", {5, 3}: "1488000", {97, 1}: "96", {97, 2}: "87607296",
	} {
		same(t, fmt.Sprint("Size of ", k), size(k.p, k.n), answer{text: want})
	}
}
