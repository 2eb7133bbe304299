package coin

import (
	"math"
	"math/big"
	"slices"
	"testing"

	"rialto/api"
)

// most is the greatest amount.
const most = 1 << 62

// numbers are those at which something may go wrong.
func numbers() []uint64 {
	out := []uint64{0, 1, 2, 3, 7, 1000, most / 3, most/3 + 1, math.MaxUint64 / 3, math.MaxUint64/3 + 1}
	for _, bit := range []int{31, 32, 33, 61, 62, 63} {
		n := uint64(1) << bit
		out = append(out, n-1, n, n+1)
	}
	return append(out, 3<<61, 3<<62, math.MaxUint64-1, math.MaxUint64)
}

// far are numbers that are no coins.
func far() []int {
	return []int{math.MinInt, math.MinInt + 1, -1 << 32, -5, -4, -1, 4, 5, 8, 256, 1 << 32, 1<<32 + 1, math.MaxInt}
}

// whole is a number without an end.
func whole(n uint64) *big.Int { return new(big.Int).SetUint64(n) }

// amount is what is answered of a number that was worked out without an end.
func amount(n *big.Int) (uint64, api.Errno) {
	if n.Cmp(whole(most)) > 0 {
		return 0, api.ErrOver
	}
	return n.Uint64(), api.OK
}

// left is what is answered of a and b, of which b is taken.
func left(a, b uint64) (uint64, api.Errno) {
	n := new(big.Int).Sub(whole(a), whole(b))
	if n.Sign() < 0 {
		return 0, api.ErrFunds
	}
	return n.Uint64(), api.OK
}

func both(a, b uint64) (uint64, api.Errno)    { return amount(new(big.Int).Add(whole(a), whole(b))) }
func product(a, b uint64) (uint64, api.Errno) { return amount(new(big.Int).Mul(whole(a), whole(b))) }

// P13.1

func TestRight(t *testing.T) {
	for coin := range 4 {
		if !Right(coin) {
			t.Error("a coin", coin)
		}
	}
	for _, coin := range far() {
		if Right(coin) {
			t.Error("no coin", coin)
		}
	}
}

func TestOfTwo(t *testing.T) {
	for _, x := range []struct {
		what      string
		got, want func(a, b uint64) (uint64, api.Errno)
	}{{"Plus", Plus, both}, {"Minus", Minus, left}, {"Times", Times, product}} {
		for _, a := range numbers() {
			for _, b := range numbers() {
				n, e := x.got(a, b)
				m, f := x.want(a, b)
				if n != m || e != f {
					t.Error(x.what, a, b, "is", n, e, "and not", m, f)
				}
			}
		}
	}
}

func TestPlus(t *testing.T) {
	for _, x := range []struct {
		a, b, want uint64
		e          api.Errno
	}{
		{0, 0, 0, api.OK},
		{5, 7, 12, api.OK},
		{most, 0, most, api.OK},
		{0, most, most, api.OK},
		{most - 1, 1, most, api.OK},
		{most / 2, most / 2, most, api.OK},
		{most, 1, 0, api.ErrOver},
		{1, most, 0, api.ErrOver},
		{most + 1, 0, 0, api.ErrOver},
		{0, most + 1, 0, api.ErrOver},
		// These go round.
		{math.MaxUint64, 1, 0, api.ErrOver},
		{1, math.MaxUint64, 0, api.ErrOver},
		{1 << 63, 1 << 63, 0, api.ErrOver},
		{math.MaxUint64, math.MaxUint64, 0, api.ErrOver},
	} {
		if n, e := Plus(x.a, x.b); n != x.want || e != x.e {
			t.Error(x, n, e)
		}
	}
}

func TestMinus(t *testing.T) {
	for _, x := range []struct {
		a, b, want uint64
		e          api.Errno
	}{
		{0, 0, 0, api.OK},
		{7, 5, 2, api.OK},
		{7, 7, 0, api.OK},
		{5, 7, 0, api.ErrFunds},
		{0, 1, 0, api.ErrFunds},
		{0, math.MaxUint64, 0, api.ErrFunds},
		{most, most + 1, 0, api.ErrFunds},
		{most, 0, most, api.OK},
		// Of any numbers, also of those that are no amounts.
		{most + 1, 0, most + 1, api.OK},
		{math.MaxUint64, 1, math.MaxUint64 - 1, api.OK},
		{math.MaxUint64, math.MaxUint64, 0, api.OK},
		{math.MaxUint64 - 1, math.MaxUint64, 0, api.ErrFunds},
	} {
		if n, e := Minus(x.a, x.b); n != x.want || e != x.e {
			t.Error(x, n, e)
		}
	}
}

func TestTimes(t *testing.T) {
	for _, x := range []struct {
		a, b, want uint64
		e          api.Errno
	}{
		{1 << 31, 1 << 31, most, api.OK},
		{1 << 31, 1<<31 + 1, 0, api.ErrOver},
		{1<<31 + 1, 1 << 31, 0, api.ErrOver},
		{6, 7, 42, api.OK},
		{0, math.MaxUint64, 0, api.OK},
		{math.MaxUint64, 0, 0, api.OK},
		{most, 1, most, api.OK},
		{1, most + 1, 0, api.ErrOver},
		{2, most / 2, most, api.OK},
		{2, most/2 + 1, 0, api.ErrOver},
		// These go round, to 0, to 1, to 2^62.
		{1 << 32, 1 << 32, 0, api.ErrOver},
		{most, 4, 0, api.ErrOver},
		{math.MaxUint64, math.MaxUint64, 0, api.ErrOver},
		{most, 5, 0, api.ErrOver},
	} {
		if n, e := Times(x.a, x.b); n != x.want || e != x.e {
			t.Error(x, n, e)
		}
	}
}

// together is what is answered of a list.
func together(l []uint64) (uint64, api.Errno) {
	all := new(big.Int)
	for _, n := range l {
		all.Add(all, whole(n))
	}
	return amount(all)
}

func TestSum(t *testing.T) {
	lists := [][]uint64{
		nil, {}, {0}, {0, 0, 0}, {1, 2, 3, 4},
		{most}, {most + 1}, {0, most, 0}, {most, 0, 1}, {1, 0, most}, {most - 3, 1, 1, 1}, {most - 3, 1, 1, 1, 1},
		// These go round, to 0, to 1, to 2^62, and more than once.
		{most, most, most, most}, {1 << 63, 1 << 63, 1}, {most, most, most, most, most}, {math.MaxUint64, 1}, {math.MaxUint64, most + 1},
		{math.MaxUint64, math.MaxUint64, math.MaxUint64, 3},
		slices.Repeat([]uint64{most}, 4096), slices.Repeat([]uint64{most / 4096}, 4096), slices.Repeat([]uint64{most / 4096}, 4097),
		slices.Repeat([]uint64{0}, 1<<16), slices.Repeat([]uint64{1}, 1<<16),
	}
	for _, a := range numbers() {
		for _, b := range numbers() {
			lists = append(lists, []uint64{a, b}, []uint64{a, b, 1}, []uint64{a, b, most})
		}
	}
	for _, l := range lists {
		was := slices.Clone(l)
		n, e := Sum(l)
		m, f := together(was)
		if n != m || e != f {
			t.Error(len(l), was[:min(len(l), 5)], "is", n, e, "and not", m, f)
		}
		if !slices.Equal(l, was) {
			t.Error("changed", l, was)
		}
	}
}

func TestSumBehindTheEnd(t *testing.T) {
	all := []uint64{1, 2, most, 9}
	if n, e := Sum(all[:2]); n != 3 || e != api.OK {
		t.Error(n, e)
	}
	if n, e := Sum(all[:0]); n != 0 || e != api.OK {
		t.Error("of none", n, e)
	}
}

// P13.2

// purse is what each coin's place has.
type purse = [api.Coins]uint64

// purses are of each number in each place, beside others.
func purses() []purse {
	out := []purse{{}, {5, 6, 7, 8}, {most, most, most, most}}
	for _, n := range numbers() {
		for coin := range 4 {
			p := purse{11, 12, 13, 14}
			p[coin] = n
			out = append(out, p)
		}
	}
	return append(out, purse{math.MaxUint64, math.MaxUint64, math.MaxUint64, math.MaxUint64})
}

func TestGiveAndTake(t *testing.T) {
	for _, x := range []struct {
		what string
		got  func(p purse, coin int, n uint64) (purse, api.Errno)
		want func(a, b uint64) (uint64, api.Errno)
	}{{"Give", Give, both}, {"Take", Take, left}} {
		for _, p := range purses() {
			for coin := range 4 {
				for _, n := range numbers() {
					now, e := x.want(p[coin], n)
					want := p
					want[coin] = now
					if e != api.OK {
						want = purse{}
					}
					if got, f := x.got(p, coin, n); got != want || f != e {
						t.Error(x.what, p, coin, n, "is", got, f, "and not", want, e)
					}
				}
			}
		}
	}
}

func TestNoCoin(t *testing.T) {
	for _, coin := range far() {
		// The last two are too much, or more than there is: that is told behind.
		for _, n := range []uint64{0, 1, most + 1, math.MaxUint64} {
			for _, p := range []purse{{}, {5, 6, 7, 8}} {
				if got, e := Give(p, coin, n); got != (purse{}) || e != api.ErrArg {
					t.Error("Give", coin, n, got, e)
				}
				if got, e := Take(p, coin, n); got != (purse{}) || e != api.ErrArg {
					t.Error("Take", coin, n, got, e)
				}
			}
		}
	}
}

func TestPurseStays(t *testing.T) {
	p := purse{5, 6, 7, 8}
	if got, e := Give(p, 1, 4); got != (purse{5, 10, 7, 8}) || e != api.OK {
		t.Error("Give", got, e)
	}
	if got, e := Take(p, 3, 8); got != (purse{5, 6, 7, 0}) || e != api.OK {
		t.Error("Take", got, e)
	}
	if got, e := Take(p, 0, 6); got != (purse{}) || e != api.ErrFunds {
		t.Error("Take of too much", got, e)
	}
	if got, e := Give(p, 2, most-6); got != (purse{}) || e != api.ErrOver {
		t.Error("Give of too much", got, e)
	}
	if p != (purse{5, 6, 7, 8}) {
		t.Error("changed", p)
	}
}

// P13.3

func TestGivenAndTakenAgain(t *testing.T) {
	for _, p := range purses() {
		for coin := range 4 {
			for _, n := range numbers() {
				if more, e := Give(p, coin, n); e == api.OK {
					if got, e := Take(more, coin, n); got != p || e != api.OK {
						t.Error("given, and taken again", p, coin, n, got, e)
					}
				}
				if less, e := Take(p, coin, n); e == api.OK && p[coin] <= most {
					if got, e := Give(less, coin, n); got != p || e != api.OK {
						t.Error("taken, and given again", p, coin, n, got, e)
					}
				}
			}
		}
	}
}

func TestNothingGoesRound(t *testing.T) {
	for _, a := range numbers() {
		for _, b := range numbers() {
			if n, e := Plus(a, b); e == api.OK && (n < a || n < b || n > most || n-a != b) {
				t.Error("Plus", a, b, n)
			}
			if n, e := Times(a, b); e == api.OK && (n > most || a != 0 && n/a != b || a != 0 && n%a != 0) {
				t.Error("Times", a, b, n)
			}
			if n, e := Sum([]uint64{a, b}); e == api.OK && (n < a || n < b || n > most) {
				t.Error("Sum", a, b, n)
			}
			if n, e := Minus(a, b); e == api.OK && n > a {
				t.Error("Minus", a, b, n)
			}
		}
	}
}
