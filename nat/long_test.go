package nat_test

import (
	"math/big"
	"testing"

	"cayley/nat"
)

// longs are 0, numbers of up to three parts, each part of which is at an edge,
// and some that are longer.
func longs() []nat.Nat {
	parts := []uint64{0, 1, 500000000, 999999999}
	out := []nat.Nat{{}, nat.Of(parts[1]), nat.Of(parts[2]), nat.Of(parts[3])}
	for at := 1; at < 16; at++ {
		for _, part := range parts {
			out = append(out, out[at].TimesPlus(1000000000, part))
		}
	}
	for _, edge := range edges()[1:] {
		power := nat.Of(1)
		for range 7 {
			power = power.TimesPlus(edge, edge/3)
			out = append(out, power)
		}
	}
	return out
}

func bigsOf(t *testing.T, list []nat.Nat) []*big.Int {
	t.Helper()
	var out []*big.Int
	for _, a := range list {
		n, is := new(big.Int).SetString(a.Decimal(), 10)
		if !is {
			t.Fatalf("no number: %s", a.Decimal())
		}
		out = append(out, n)
	}
	return out
}

func told(t *testing.T, what string, a, b *big.Int, got nat.Nat, want *big.Int) {
	t.Helper()
	if got.Decimal() != want.String() {
		t.Errorf("%s of %s and %s: %s, want %s", what, a, b, got.Decimal(), want)
	}
	if got.IsZero() != (want.Sign() == 0) {
		t.Errorf("%s of %s and %s: is it 0?", what, a, b)
	}
}

func TestLongsAreExact(t *testing.T) {
	list := longs()
	bigs := bigsOf(t, list)
	for i, a := range list {
		for k, b := range list {
			x, y := bigs[i], bigs[k]
			if got := a.Compare(b); got != x.Cmp(y) {
				t.Errorf("%s against %s: %d", x, y, got)
			}
			told(t, "sum", x, y, a.Plus(b), new(big.Int).Add(x, y))
			told(t, "product", x, y, a.Times(b), new(big.Int).Mul(x, y))
			if x.Cmp(y) >= 0 {
				told(t, "difference", x, y, a.Minus(b), new(big.Int).Sub(x, y))
			}
			if y.Sign() > 0 {
				times, left := a.Over(b)
				told(t, "quotient", x, y, times, new(big.Int).Quo(x, y))
				told(t, "rest", x, y, left, new(big.Int).Rem(x, y))
			}
		}
	}
}

// TestOverOfProducts: just below a multiple, and at it, a guess is too much.
func TestOverOfProducts(t *testing.T) {
	list := longs()
	bigs := bigsOf(t, list)
	one := nat.Of(1)
	for i, a := range list {
		for k, b := range list {
			if a.IsZero() || b.IsZero() {
				continue
			}
			product := a.Times(b)
			times, left := product.Over(b)
			told(t, "quotient", bigs[i], bigs[k], times, bigs[i])
			told(t, "rest", bigs[i], bigs[k], left, new(big.Int))
			times, left = product.Minus(one).Over(b)
			told(t, "quotient below", bigs[i], bigs[k], times, new(big.Int).Sub(bigs[i], big.NewInt(1)))
			told(t, "rest below", bigs[i], bigs[k], left, new(big.Int).Sub(bigs[k], big.NewInt(1)))
		}
	}
}

func TestShared(t *testing.T) {
	list := longs()
	bigs := bigsOf(t, list)
	for i, a := range list {
		for k, b := range list {
			told(t, "shared", bigs[i], bigs[k], nat.Shared(a, b), new(big.Int).GCD(nil, nil, bigs[i], bigs[k]))
		}
	}
}

func TestLongsDoNotChange(t *testing.T) {
	list := longs()
	bigs := bigsOf(t, list)
	last := list[len(list)-1]
	for i, a := range list {
		a.Plus(last)
		a.Times(last)
		a.Over(last)
		last.Over(last)
		last.Minus(last)
		nat.Shared(a, last)
		if a.Decimal() != bigs[i].String() || last.Decimal() != bigs[len(bigs)-1].String() {
			t.Fatalf("changed: %s, or %s", bigs[i], bigs[len(bigs)-1])
		}
	}
}
