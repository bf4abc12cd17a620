package whole_test

import (
	"math"
	"math/big"
	"testing"

	"cayley/whole"
)

// both has a number, and what it must be.
type both struct {
	own  whole.Number
	want *big.Int
}

// several are numbers of both signs, and long ones.
func several() []both {
	var out []both
	for _, n := range []int{0, 1, 2, 3, 7, 999999999, 1000000000, 1000000001, 1 << 32, math.MaxInt - 1, math.MaxInt, math.MinInt, math.MinInt + 1} {
		for _, a := range []int{n, -n} {
			own, want := whole.Of(a), big.NewInt(int64(a))
			out = append(out, both{own, want}, both{own.Times(own), new(big.Int).Mul(want, want)})
			own = own.Times(own).Times(own).Plus(whole.Of(5))
			want = new(big.Int).Exp(want, big.NewInt(3), nil)
			out = append(out, both{own, want.Add(want, big.NewInt(5))})
		}
	}
	return out
}

func held(t *testing.T, what string, a, b both, got whole.Number, want *big.Int) {
	t.Helper()
	if got.Decimal() != want.String() || got.Sign() != want.Sign() {
		t.Errorf("%s of %s and %s: %s with the sign %d, want %s", what, a.want, b.want, got.Decimal(), got.Sign(), want)
	}
}

func TestNumbersAreExact(t *testing.T) {
	for _, a := range several() {
		held(t, "number", a, a, a.own, a.want)
		held(t, "negated", a, a, a.own.Negated(), new(big.Int).Neg(a.want))
		if got, want := a.own.Size().Decimal(), new(big.Int).Abs(a.want).String(); got != want {
			t.Errorf("size of %s: %s", a.want, got)
		}
		for _, b := range several() {
			held(t, "sum", a, b, a.own.Plus(b.own), new(big.Int).Add(a.want, b.want))
			held(t, "difference", a, b, a.own.Minus(b.own), new(big.Int).Sub(a.want, b.want))
			held(t, "product", a, b, a.own.Times(b.own), new(big.Int).Mul(a.want, b.want))
			if b.want.Sign() != 0 {
				held(t, "quotient", a, b, a.own.Over(b.own), new(big.Int).Div(a.want, b.want)) // Euclid's
			}
		}
	}
}

func TestZeroNumber(t *testing.T) {
	var nought whole.Number
	if nought.Sign() != 0 || nought.Decimal() != "0" || nought.Negated().Decimal() != "0" {
		t.Errorf("%s", nought.Decimal())
	}
	if got := whole.Of(-4).Plus(whole.Of(4)); got.Sign() != 0 || got.Decimal() != "0" {
		t.Errorf("%s", got.Decimal())
	}
	if got := whole.Of(-4).Times(nought); got.Sign() != 0 || got.Decimal() != "0" {
		t.Errorf("%s", got.Decimal())
	}
}

func TestNumbersDoNotChange(t *testing.T) {
	for _, a := range several() {
		b := whole.Of(-7)
		a.own.Plus(b)
		a.own.Minus(b)
		a.own.Times(b)
		a.own.Over(b)
		a.own.Negated()
		held(t, "changed", a, a, a.own, a.want)
		held(t, "changed", a, a, b, big.NewInt(-7))
	}
}
