package nat_test

import (
	"math"
	"math/big"
	"testing"

	"cayley/nat"
)

func edges() []uint64 {
	return []uint64{0, 1, 2, 9, 10, 999999999, 1000000000, 1000000001, 1 << 32, 1<<63 - 1, 1 << 63, math.MaxUint64 - 1, math.MaxUint64}
}

func bigOf(n uint64) *big.Int { return new(big.Int).SetUint64(n) }

func TestTimesPlusIsExact(t *testing.T) {
	for _, first := range edges() {
		for _, m := range edges() {
			for _, add := range edges() {
				got := nat.Of(first)
				want := bigOf(first)
				for range 5 {
					got = got.TimesPlus(m, add)
					want.Mul(want, bigOf(m)).Add(want, bigOf(add))
					if got.Decimal() != want.String() {
						t.Fatalf("%d, %d, %d: %s, want %s", first, m, add, got.Decimal(), want)
					}
				}
			}
		}
	}
}

func TestModIsExact(t *testing.T) {
	number := nat.Of(1)
	want := big.NewInt(1)
	for step := range uint64(60) {
		number = number.TimesPlus(math.MaxUint64-step, step)
		want.Mul(want, bigOf(math.MaxUint64-step)).Add(want, bigOf(step))
		for _, m := range edges()[1:] {
			left := new(big.Int).Mod(want, bigOf(m))
			if got := number.Mod(m); got != left.Uint64() {
				t.Fatalf("%s mod %d: %d, want %s", want, m, got, left)
			}
		}
	}
}

func TestDivIsExact(t *testing.T) {
	number := nat.Of(1)
	want := big.NewInt(1)
	for step := range uint64(60) {
		number = number.TimesPlus(math.MaxUint64-step, step)
		want.Mul(want, bigOf(math.MaxUint64-step)).Add(want, bigOf(step))
		for _, m := range edges()[1:] {
			times, left := new(big.Int).DivMod(want, bigOf(m), new(big.Int))
			got, rest := number.Div(m)
			if got.Decimal() != times.String() || rest != left.Uint64() {
				t.Fatalf("%s by %d: %s and %d, want %s and %s", want, m, got.Decimal(), rest, times, left)
			}
		}
	}
}

// TestDivOfLittle: where m is more than the number, and of 0.
func TestDivOfLittle(t *testing.T) {
	for _, a := range edges() {
		for _, m := range edges()[1:] {
			got, left := nat.Of(a).Div(m)
			if got.Decimal() != bigOf(a/m).String() || left != a%m {
				t.Errorf("%d by %d: %s and %d", a, m, got.Decimal(), left)
			}
			if again := got.TimesPlus(m, left); again.Decimal() != bigOf(a).String() {
				t.Errorf("%d by %d, and back: %s", a, m, again.Decimal())
			}
		}
	}
}

// TestModCarries: here the low half of a product is so near to 2^64 that what is added runs over.
func TestModCarries(t *testing.T) {
	const first = 15817289833210771
	number := nat.Of(first).TimesPlus(1000000000, 999999999)
	want := bigOf(first)
	want.Mul(want, bigOf(1000000000)).Add(want, bigOf(999999999)).Mod(want, bigOf(math.MaxUint64))
	if got := number.Mod(math.MaxUint64); got != want.Uint64() {
		t.Errorf("%d, want %s", got, want)
	}
}

func TestDecimalKeepsNoughtsWithin(t *testing.T) {
	number := nat.Of(1)
	text := "1"
	for range 40 {
		if number.Decimal() != text {
			t.Fatalf("%s, want %s", number.Decimal(), text)
		}
		number = number.TimesPlus(10, 0)
		text += "0"
	}
}

func TestNatDoesNotChange(t *testing.T) {
	number := nat.Of(math.MaxUint64)
	number.TimesPlus(7, 3)
	number.TimesPlus(0, 0)
	number.Mod(5)
	number.Div(5)
	if got := number.Decimal(); got != "18446744073709551615" {
		t.Errorf("changed: %s", got)
	}
	if got := (nat.Nat{}).Decimal(); got != "0" {
		t.Errorf("zero Nat: %s", got)
	}
}

func TestGcd(t *testing.T) {
	for _, a := range edges() {
		for _, b := range edges() {
			want := new(big.Int).GCD(nil, nil, bigOf(a), bigOf(b))
			if got := nat.Gcd(a, b); got != want.Uint64() {
				t.Errorf("%d, %d: %d, want %s", a, b, got, want)
			}
		}
	}
}
