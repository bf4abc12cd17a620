package beads_test

import (
	"fmt"
	"math/big"
	"slices"
	"testing"

	"cayley/beads"
)

// TestCountsAgainstAllColourings goes by the chapter's words.
func TestCountsAgainstAllColourings(t *testing.T) {
	for _, size := range sizes(4096) {
		n, k := size[0], size[1]
		if n < 3 && k > 40 {
			continue
		}
		rings, round, ownLeast := map[string]bool{}, map[string]bool{}, 0
		for w := range colourings(n, k) {
			ring := turned(w, leastTurn(w))
			rings[fmt.Sprint(ring)] = true
			back := slices.Clone(w)
			slices.Reverse(back)
			back = turned(back, leastTurn(back))
			if slices.Compare(ring, back) > 0 {
				ring = back
			}
			round[fmt.Sprint(ring)] = true
			if isLyndon(w) {
				ownLeast++
			}
		}
		same(t, fmt.Sprint("Necklaces of ", size), necklaces(n, k), counted(fmt.Sprint(len(rings))))
		same(t, fmt.Sprint("Bracelets of ", size), bracelets(n, k), counted(fmt.Sprint(len(round))))
		same(t, fmt.Sprint("Lyndon of ", size), lyndon(n, k), counted(fmt.Sprint(ownLeast)))
	}
}

func power(k, n int) *big.Int {
	return new(big.Int).Exp(big.NewInt(int64(k)), big.NewInt(int64(n)), nil)
}

// shared is the greatest number that divides both.
func shared(a, b int) int {
	for b > 0 {
		a, b = b, a%b
	}
	return a
}

// ofTurns sums up how many colourings each turn leaves as they are.
func ofTurns(n, k int) *big.Int {
	sum := new(big.Int)
	for i := range n {
		sum.Add(sum, power(k, shared(n, i)))
	}
	return sum
}

// ofTurningRound sums up how many colourings are left as they are by each way to
// turn round: the number at i goes to by - i.
func ofTurningRound(n, k int) *big.Int {
	sum := new(big.Int)
	for by := range n {
		free := 0
		for i := range n {
			if i <= (by-i+n)%n {
				free++
			}
		}
		sum.Add(sum, power(k, free))
	}
	return sum
}

// byMoebius is how many colourings are like none of their turns.
func byMoebius(n, k int) *big.Int {
	sum := new(big.Int)
	for d := 1; d <= n; d++ {
		if n%d == 0 {
			sum.Add(sum, new(big.Int).Mul(big.NewInt(moebius(d)), power(k, n/d)))
		}
	}
	return sum
}

func moebius(n int) int64 {
	sign := int64(1)
	for p := 2; p <= n; p++ {
		if n%p != 0 {
			continue
		}
		n /= p
		if n%p == 0 {
			return 0
		}
		sign = -sign
	}
	return sign
}

// over is the text of a / n, which must be whole.
func over(t *testing.T, a *big.Int, n int) string {
	t.Helper()
	whole, left := new(big.Int).QuoRem(a, big.NewInt(int64(n)), new(big.Int))
	if left.Sign() != 0 {
		t.Fatalf("%s is no multiple of %d", a, n)
	}
	return whole.String()
}

// TestCountsOfMany counts, for many n up to 1000, turn by turn.
func TestCountsOfMany(t *testing.T) {
	for n := 1; n <= 1000; n++ {
		if n > 130 && n%30 != 0 && n%97 != 0 && n < 990 && n != 512 && n != 729 && n != 961 {
			continue
		}
		for _, k := range []int{1, 2, 3, 10, 999, 1000} {
			turns := ofTurns(n, k)
			both := new(big.Int).Add(turns, ofTurningRound(n, k))
			same(t, fmt.Sprint("Necklaces of ", n, " and ", k), necklaces(n, k), counted(over(t, turns, n)))
			same(t, fmt.Sprint("Bracelets of ", n, " and ", k), bracelets(n, k), counted(over(t, both, 2*n)))
			same(t, fmt.Sprint("Lyndon of ", n, " and ", k), lyndon(n, k), counted(over(t, byMoebius(n, k), n)))
		}
	}
}

// TestSumOfLyndon: k^n is the sum over all d that divide n of d times Lyndon of d.
func TestSumOfLyndon(t *testing.T) {
	for _, k := range []int{1, 2, 3, 7, 60, 1000} {
		lyndons := []*big.Int{nil}
		for n := 1; n <= 1000; n++ {
			text, f := beads.Lyndon(n, k)
			l, is := new(big.Int).SetString(text, 10)
			if f.Code != 0 || !is {
				t.Fatalf("Lyndon of %d and %d: %q, %v", n, k, text, f)
			}
			lyndons = append(lyndons, l)
			sum := new(big.Int)
			for d := 1; d <= n; d++ {
				if n%d == 0 {
					sum.Add(sum, new(big.Int).Mul(big.NewInt(int64(d)), lyndons[d]))
				}
			}
			if sum.Cmp(power(k, n)) != 0 {
				t.Errorf("the sum over what divides %d, for %d: %s", n, k, sum)
			}
		}
	}
}

func TestExamplesOfCounts(t *testing.T) {
	same(t, "Necklaces of 4 and 2", necklaces(4, 2), counted("6"))
	same(t, "Bracelets of 6 and 2", bracelets(6, 2), counted("13"))
	same(t, "Lyndon of 6 and 2", lyndon(6, 2), counted("9"))
	same(t, "Lyndon of 2 and 1", lyndon(2, 1), counted("0"))
	same(t, "Lyndon of 1000 and 1", lyndon(1000, 1), counted("0"))
	same(t, "Lyndon of 1 and 1", lyndon(1, 1), counted("1"))
	same(t, "Necklaces of 1000 and 1", necklaces(1000, 1), counted("1"))
	same(t, "Bracelets of 1000 and 1", bracelets(1000, 1), counted("1"))
	same(t, "Bracelets of 1 and 1000", bracelets(1, 1000), counted("1000"))
	same(t, "Bracelets of 2 and 1000", bracelets(2, 1000), counted("500500"))
}
