package trade

import (
	"math"
	"math/big"
	"slices"
	"testing"

	"rialto/api"
)

const most = 1 << 62

// part is one of a trade.
func part(coin int, amount uint64, item int) api.Part {
	return api.Part{Coin: coin, Amount: amount, Item: item}
}

// offer is a slot with a trade.
func offer(a, b int, give, want api.Part) api.Trade {
	return api.Trade{Used: true, A: a, B: b, Give: give, Want: want}
}

// gives is a trade of 0 with 1 that gives an amount of a coin alone.
func gives(coin int, amount uint64) api.Trade {
	return offer(0, 1, part(coin, amount, -1), part(0, 0, 5))
}

// numbers are such as an account, or an item's slot, may have; others may not be.
func numbers() []int { return []int{0, 1, 2, 5, 8, 64, 126, 127} }

func others() []int {
	return []int{math.MinInt, math.MinInt32, -256, -128, -127, -1, 128, 129, 255, 256, 1 << 32, math.MaxInt}
}

// noCoins are numbers that are no coins.
func noCoins() []int {
	return []int{math.MinInt, -256, -4, -2, -1, 4, 5, 127, 256, 1 << 32, math.MaxInt}
}

// overs are numbers that are no amounts.
func overs() []uint64 { return []uint64{most + 1, 1 << 63, 1<<63 + 1, math.MaxUint64} }

// nothings are parts that have nothing.
func nothings() []api.Part {
	return []api.Part{part(0, 0, -1), part(1, 0, -1), part(2, 0, -1), part(3, 0, -1)}
}

// somethings are parts that have an amount, an item, or both.
func somethings() []api.Part {
	out := []api.Part{part(0, 0, 0), part(3, 0, 127)}
	for coin := range 4 {
		for _, amount := range []uint64{1, 2, 1 << 32, most - 1, most} {
			out = append(out, part(coin, amount, -1), part(coin, amount, 0))
		}
		for _, item := range numbers() {
			out = append(out, part(coin, 0, item), part(coin, 5, item), part(coin, most, item))
		}
	}
	return out
}

// wrongParts are parts that may not be.
func wrongParts() []api.Part {
	var out []api.Part
	for _, coin := range noCoins() {
		out = append(out, part(coin, 0, -1), part(coin, 1, -1), part(coin, 0, 0), part(coin, most, 127))
	}
	for _, amount := range overs() {
		out = append(out, part(0, amount, -1), part(3, amount, 0), part(1, amount, 127))
	}
	for _, item := range others() {
		if item != -1 {
			out = append(out, part(0, 0, item), part(3, 1, item), part(2, most, item))
		}
	}
	return out
}

// wrongTrades are trades that may not be, though they are Used.
func wrongTrades() []api.Trade {
	some, none := part(1, 5, 2), part(2, 0, -1)
	var out []api.Trade
	for _, n := range others() {
		out = append(out, offer(n, 0, some, none), offer(0, n, some, none), offer(n, n, some, some), offer(127, n, none, some))
	}
	for _, n := range numbers() {
		out = append(out, offer(n, n, some, some), offer(n, n, some, none), offer(n, n, none, some))
	}
	for _, p := range wrongParts() {
		out = append(out, offer(0, 1, p, some), offer(0, 1, some, p), offer(0, 1, p, none), offer(0, 1, none, p), offer(0, 1, p, p))
	}
	for _, p := range nothings() {
		for _, q := range nothings() {
			out = append(out, offer(0, 1, p, q), offer(127, 0, p, q))
		}
	}
	return append(out, api.Trade{Used: true}, api.Trade{Used: true, B: 1, Give: part(0, 0, -1), Want: part(4, 0, -1)})
}

// wrongSlots are slots that may not be.
func wrongSlots() []api.Trade {
	out := []api.Trade{
		{A: 1}, {A: -1}, {B: 1}, {B: -1}, {Give: part(1, 0, 0)}, {Give: part(0, 1, 0)}, {Give: part(0, 0, 1)}, {Give: part(0, 0, -1)},
		{Want: part(1, 0, 0)}, {Want: part(0, 1, 0)}, {Want: part(0, 0, 1)}, {Want: part(0, 0, -1)}, {Give: part(0, 0, -1), Want: part(0, 0, -1)},
		{A: 0, B: 1, Give: part(1, 5, 2), Want: part(0, 0, -1)},
	}
	return append(out, wrongTrades()...)
}

// wrongLists are lists that may not be, with free slots, and with trades that may be.
func wrongLists() [][]api.Trade {
	var out [][]api.Trade
	for _, x := range wrongSlots() {
		out = append(out, []api.Trade{x, {}}, []api.Trade{{}, x}, []api.Trade{gives(0, 1), {}, x, gives(1, 1)})
	}
	return out
}

// lists are lists of up to three slots, with some few trades, that may be.
func lists() [][]api.Trade {
	some := []api.Trade{
		{}, gives(0, 1), offer(1, 0, part(0, 2, 3), part(1, 4, -1)), offer(0, 2, part(2, 0, 0), part(3, 0, -1)),
		offer(2, 1, part(3, 0, -1), part(2, 7, 1)), offer(127, 0, part(0, most, 127), part(0, most, 127)),
	}
	out := [][]api.Trade{nil, {}}
	for _, a := range some {
		out = append(out, []api.Trade{a})
		for _, b := range some {
			out = append(out, []api.Trade{a, b})
			// Two trades may be the same.
			for _, c := range some {
				out = append(out, []api.Trade{a, b, c})
			}
		}
	}
	return out
}

// with is a list in which another trade stands at a slot.
func with(l []api.Trade, i int, x api.Trade) []api.Trade {
	out := slices.Clone(l)
	out[i] = x
	return out
}

// mine are the slots of an account's trades, one by one.
func mine(l []api.Trade, who int) []int {
	var out []int
	for i := range l {
		if l[i].Used && l[i].A == who || l[i].Used && l[i].B == who {
			out = append(out, i)
		}
	}
	return out
}

// slotsAsked are slots that are there, and ones that are not.
func slotsAsked() []int { return []int{math.MinInt, -128, -1, 0, 1, 2, 3, 4, 127, math.MaxInt} }

// P18.1

func TestMay(t *testing.T) {
	for _, p := range append(nothings(), somethings()...) {
		if !May(p) {
			t.Error("may be", p)
		}
	}
	for _, p := range wrongParts() {
		if May(p) {
			t.Error("may not be", p)
		}
	}
	for item := -300; item <= 300; item++ {
		if May(part(0, 0, item)) != (item >= -1 && item <= 127) {
			t.Error("item", item)
		}
	}
	for coin := -300; coin <= 300; coin++ {
		if May(part(coin, 1, -1)) != (coin >= 0 && coin <= 3) {
			t.Error("coin", coin)
		}
	}
}

func TestRight(t *testing.T) {
	for _, l := range append(lists(), make([]api.Trade, 5000)) {
		if !Right(l) {
			t.Error("may be", l)
		}
	}
	for _, p := range somethings() {
		for _, q := range append(nothings(), somethings()...) {
			if l := []api.Trade{offer(0, 1, p, q), {}, offer(127, 0, q, p)}; !Right(l) {
				t.Error("may be", l)
			}
		}
	}
	for _, n := range numbers() {
		for _, m := range numbers() {
			if Right([]api.Trade{offer(n, m, part(0, 1, -1), part(0, 0, -1))}) != (n != m) {
				t.Error("accounts", n, m)
			}
		}
	}
	for _, x := range wrongSlots() {
		if Right([]api.Trade{x}) {
			t.Error("may not be", x)
		}
	}
	for _, l := range wrongLists() {
		if Right(l) {
			t.Error("may not be", l)
		}
	}
}

// Of the two amounts and the two items one alone is enough, whichever it is.
func TestOneIsEnough(t *testing.T) {
	for coin := range 4 {
		for other := range 4 {
			none := offer(3, 4, part(coin, 0, -1), part(other, 0, -1))
			for _, x := range []struct {
				change func(x *api.Trade)
				may    bool
			}{
				{func(x *api.Trade) {}, false},
				{func(x *api.Trade) { x.Give.Amount = 1 }, true}, {func(x *api.Trade) { x.Want.Amount = 1 }, true},
				{func(x *api.Trade) { x.Give.Item = 0 }, true}, {func(x *api.Trade) { x.Want.Item = 0 }, true},
			} {
				now := none
				x.change(&now)
				if _, _, e := Open([]api.Trade{{}}, now); Right([]api.Trade{now}) != x.may || (e == api.OK) != x.may {
					t.Error(now, e)
				}
			}
		}
	}
}

func TestExample(t *testing.T) {
	x := offer(0, 1, part(2, 5, -1), part(0, 0, 3))
	l, i, e := Open([]api.Trade{{}}, x)
	if !slices.Equal(l, []api.Trade{x}) || i != 0 || e != api.OK {
		t.Error("Open", l, i, e)
	}
	if n, e := Held(l, 2); n != 5 || e != api.OK {
		t.Error("Held", n, e)
	}
}

func TestOpen(t *testing.T) {
	for _, l := range lists() {
		was := slices.Clone(l)
		free := slices.Index(l, api.Trade{})
		for _, p := range somethings() {
			for _, x := range []api.Trade{offer(0, 1, p, part(0, 0, -1)), offer(127, 0, part(3, 0, -1), p), offer(1, 127, p, p)} {
				for _, used := range []bool{true, false} {
					handed := x
					// Used or not, it is put as one that is.
					handed.Used = used
					got, i, e := Open(l, handed)
					if free < 0 {
						if len(got) != 0 || i != 0 || e != api.ErrFull {
							t.Error("full", l, got, i, e)
						}
						continue
					}
					if !slices.Equal(got, with(was, free, x)) || i != free || e != api.OK {
						t.Error(l, handed, got, i, e)
					}
				}
			}
		}
		if !slices.Equal(l, was) {
			t.Error("changed", was, l)
		}
	}
}

// refused holds what Open answers against ErrArg, with nothing beside it, of a trade that is Used, and of one that is not.
func refused(t *testing.T, l []api.Trade, x api.Trade) {
	t.Helper()
	for _, used := range []bool{true, false} {
		x.Used = used
		if got, i, e := Open(l, x); len(got) != 0 || i != 0 || e != api.ErrArg {
			t.Error(l, x, "is", got, i, e)
		}
	}
}

func TestWrongOpen(t *testing.T) {
	full := []api.Trade{gives(0, 1)}
	for _, x := range wrongTrades() {
		// Ahead of a list that is full.
		for _, l := range [][]api.Trade{nil, {}, {{}}, full, {full[0], {}}} {
			refused(t, l, x)
		}
	}
	for _, l := range wrongLists() {
		refused(t, l, gives(0, 1))
		refused(t, l, api.Trade{})
	}
	for _, x := range wrongSlots() {
		refused(t, []api.Trade{x}, gives(0, 1))
	}
	refused(t, []api.Trade{{}}, api.Trade{})
}

func TestGet(t *testing.T) {
	for _, l := range append(lists(), wrongLists()...) {
		was := slices.Clone(l)
		for _, i := range slotsAsked() {
			for _, who := range append(numbers(), others()...) {
				x, e := Get(l, i, who)
				if !slices.Contains(mine(was, who), i) {
					if x != (api.Trade{}) || e != api.ErrNone {
						t.Error("none", l, i, who, x, e)
					}
					continue
				}
				if x != was[i] || e != api.OK {
					t.Error(l, i, who, x, e)
				}
			}
		}
		if !slices.Equal(l, was) {
			t.Error("changed", was, l)
		}
	}
}

func TestShut(t *testing.T) {
	for _, l := range lists() {
		was := slices.Clone(l)
		for _, i := range slotsAsked() {
			for _, who := range append(numbers(), others()...) {
				got, e := Shut(l, i, who)
				if !slices.Contains(mine(was, who), i) {
					if len(got) != 0 || e != api.ErrNone {
						t.Error("none", l, i, who, got, e)
					}
					continue
				}
				if !slices.Equal(got, with(was, i, api.Trade{})) || e != api.OK {
					t.Error(l, i, who, got, e)
				}
			}
		}
		if !slices.Equal(l, was) {
			t.Error("changed", was, l)
		}
	}
	for _, l := range wrongLists() {
		for i := -1; i <= len(l); i++ {
			// Also of a trade that may be, beside one that may not.
			for _, who := range []int{-1, 0, 1, 2, 127, 128} {
				if got, e := Shut(l, i, who); len(got) != 0 || e != api.ErrArg {
					t.Error("may not be", l, i, who, got, e)
				}
			}
		}
	}
}

// P18.2

func TestOf(t *testing.T) {
	for _, l := range append(lists(), wrongLists()...) {
		was := slices.Clone(l)
		for _, who := range append(numbers(), others()...) {
			if got := Of(l, who); !slices.Equal(got, mine(was, who)) {
				t.Error(l, who, got)
			}
		}
		if !slices.Equal(l, was) {
			t.Error("changed", was, l)
		}
	}
}

// Of any list, as it stands: it counts whose trade it is, and what it gives, not whether there may be one.
func TestWritten(t *testing.T) {
	l := []api.Trade{
		offer(3, 4, part(0, 10, -1), part(1, 100, -1)), offer(4, 5, part(1, 20, 2), part(0, 7, 3)), {}, {A: 3, B: 4, Give: part(0, 1000, 0)},
		offer(3, 3, part(0, 5, -500), part(9, math.MaxUint64, 0)), offer(-9, 300, part(0, 1, -1), part(0, 0, -1)), offer(5, 6, part(4, 2000, 1), part(0, 3000, 1)),
		offer(6, 5, part(-1, 4000, 1), part(2, 1, 1)), offer(0, 1, part(3, most, -1), part(2, 1, -1)),
	}
	for _, x := range []struct {
		who  int
		want []int
	}{{3, []int{0, 4}}, {4, []int{0, 1}}, {5, []int{1, 6, 7}}, {6, []int{6, 7}}, {-9, []int{5}}, {300, []int{5}}, {0, []int{8}}, {1, []int{8}}, {2, nil}, {math.MinInt, nil}, {math.MaxInt, nil}} {
		if got := Of(l, x.who); !slices.Equal(got, x.want) {
			t.Error("Of", x.who, got)
		}
	}
	for _, x := range [][2]int{{0, 3}, {0, 4}, {1, 5}, {4, 3}, {5, -9}, {5, 300}, {6, 6}, {8, 0}} {
		if got, e := Get(l, x[0], x[1]); got != l[x[0]] || e != api.OK {
			t.Error("Get", x, got, e)
		}
	}
	for _, x := range [][2]int{{0, 5}, {0, 0}, {1, 3}, {2, 0}, {3, 3}, {3, 4}, {9, 0}, {-1, 3}, {5, 0}} {
		if got, e := Get(l, x[0], x[1]); got != (api.Trade{}) || e != api.ErrNone {
			t.Error("none", x, got, e)
		}
	}
	for c, want := range []uint64{16, 20, 0, most} {
		if n, e := Held(l, c); n != want || e != api.OK {
			t.Error("Held", c, n, e)
		}
	}
	if len(Of(nil, 0)) != 0 || len(Of([]api.Trade{}, 0)) != 0 || len(Of(make([]api.Trade, 9), 0)) != 0 {
		t.Error("of no trades")
	}
}

// given is how much of a coin a list gives, reckoned without an end.
func given(l []api.Trade, c int) *big.Int {
	n := new(big.Int)
	for _, x := range l {
		if x.Used && x.Give.Coin == c {
			n.Add(n, new(big.Int).SetUint64(x.Give.Amount))
		}
	}
	return n
}

func TestHeld(t *testing.T) {
	all := append(lists(), wrongLists()...)
	edges := []uint64{0, 1, 1 << 61, most - 1, most, most + 1, 1 << 63, math.MaxUint64}
	for _, a := range edges {
		for _, b := range edges {
			// Sums that leave 64 bits too, and amounts of other coins beside them.
			all = append(all, []api.Trade{gives(1, a), gives(1, b)}, []api.Trade{gives(2, a), {}, gives(1, b), gives(2, 1)}, []api.Trade{gives(0, a), gives(0, b), gives(0, b), gives(0, a)})
		}
	}
	for _, l := range all {
		was := slices.Clone(l)
		for c := range 4 {
			n, e := Held(l, c)
			want := given(was, c)
			if want.Cmp(big.NewInt(most)) > 0 {
				if n != 0 || e != api.ErrOver {
					t.Error("over", l, c, n, e)
				}
				continue
			}
			if e != api.OK || n != want.Uint64() {
				t.Error(l, c, n, e, want)
			}
		}
		for _, c := range noCoins() {
			// Ahead of a sum that is above.
			if n, e := Held(l, c); n != 0 || e != api.ErrArg {
				t.Error("no coin", l, c, n, e)
			}
		}
		if !slices.Equal(l, was) {
			t.Error("changed", was, l)
		}
	}
	for c := range 4 {
		if n, e := Held(nil, c); n != 0 || e != api.OK {
			t.Error("of no trades", n, e)
		}
	}
}

// Many small amounts come to the end just as few great ones do.
func TestHeldOfMany(t *testing.T) {
	l := make([]api.Trade, 1<<12)
	for i := range l {
		l[i] = gives(3, 1<<50)
	}
	if n, e := Held(l, 3); n != most || e != api.OK {
		t.Error(n, e)
	}
	if n, e := Held(append(l, gives(3, 1)), 3); n != 0 || e != api.ErrOver {
		t.Error("one more", n, e)
	}
	if n, e := Held(append(l, gives(2, 1)), 3); n != most || e != api.OK {
		t.Error("one more of another coin", n, e)
	}
}

// answers are lists that come of one with a trade of 0 at 0, and with a free slot at 2.
func answers(l []api.Trade) [][]api.Trade {
	opened, _, _ := Open(l, gives(3, 3))
	shut, _ := Shut(l, 0, 0)
	return [][]api.Trade{opened, shut}
}

func TestNewMemory(t *testing.T) {
	l := []api.Trade{gives(0, 1), gives(1, 2), {}}
	was := slices.Clone(l)
	for i, got := range answers(l) {
		if len(got) != 3 {
			t.Fatal(i, got)
		}
		for k := range got {
			got[k] = gives(2, 9)
		}
		_ = append(got, gives(2, 9))
		if !slices.Equal(l, was) {
			t.Fatal("what was handed in has memory in common", i, l)
		}
	}
	Of(l, 0)[0] = 7
	if !slices.Equal(Of(l, 0), []int{0, 1}) {
		t.Error("slots have memory in common")
	}
	all := answers(l)
	clear(l)
	if !slices.Equal(all[0], with(was, 2, gives(3, 3))) || !slices.Equal(all[1], with(was, 0, api.Trade{})) {
		t.Error("what was handed in is kept", all)
	}
}

func TestBehindTheEnd(t *testing.T) {
	a, wrong := gives(0, 1), gives(9, 1)
	l := []api.Trade{a, a, {}, wrong, gives(0, most)}
	if !Right(l[:3]) {
		t.Error("Right behind the end")
	}
	if _, _, e := Open(l[:2], a); e != api.ErrFull {
		t.Error("a slot behind the end is free", e)
	}
	if !slices.Equal(Of(l[:3], 0), []int{0, 1}) || len(Of(l[:1], 0)) != 1 {
		t.Error("Of behind the end")
	}
	if x, e := Get(l[:1], 1, 0); x != (api.Trade{}) || e != api.ErrNone {
		t.Error("Get behind the end", x, e)
	}
	if _, e := Shut(l[:1], 1, 0); e != api.ErrNone {
		t.Error("Shut behind the end", e)
	}
	if n, e := Held(l[:3], 0); n != 2 || e != api.OK {
		t.Error("Held behind the end", n, e)
	}
	opened, _, e := Open(l[:3], gives(1, 1))
	shut, f := Shut(l[:3], 1, 0)
	if e != api.OK || f != api.OK || !slices.Equal(opened, []api.Trade{a, a, gives(1, 1)}) || !slices.Equal(shut, []api.Trade{a, {}, {}}) {
		t.Error("what lies behind is read", opened, e, shut, f)
	}
	for _, got := range [][]api.Trade{opened, shut} {
		_ = append(got, gives(2, 9))
		if slices.Contains(got[:cap(got)], wrong) || l[3] != wrong || l[4] != gives(0, most) {
			t.Error("what lies behind is written or handed out", l)
		}
	}
}

// P18.3

// held is how much of each coin is held.
func held(t *testing.T, l []api.Trade) [4]uint64 {
	t.Helper()
	var out [4]uint64
	for c := range 4 {
		n, e := Held(l, c)
		if e != api.OK {
			t.Fatal("Held", l, c, e)
		}
		out[c] = n
	}
	return out
}

// changed is what is held, with what a trade gives beside it.
func changed(was [4]uint64, x api.Trade) [4]uint64 {
	was[x.Give.Coin] += x.Give.Amount
	return was
}

func TestWhatComesOfIt(t *testing.T) {
	const slots = 3
	some := []api.Trade{gives(0, 1), gives(0, 1<<60), offer(1, 0, part(2, 5, 3), part(0, 4, -1)), offer(2, 1, part(3, 0, -1), part(3, 9, -1)), offer(0, 2, part(1, 0, 7), part(0, 0, -1))}
	all := [][]api.Trade{make([]api.Trade, slots)}
	known := map[[slots]api.Trade]int{[slots]api.Trade(all[0]): 1}
	add := func(now []api.Trade) {
		if !Right(now) || len(now) != slots {
			t.Fatal("may not be", now)
		}
		if known[[slots]api.Trade(now)]++; known[[slots]api.Trade(now)] == 1 {
			all = append(all, now)
		}
	}
	for n := 0; n < len(all); n++ {
		was := all[n]
		for _, x := range some {
			now, i, e := Open(was, x)
			if e != api.OK {
				continue
			}
			if got, e := Get(now, i, x.B); held(t, now) != changed(held(t, was), x) || got != x || e != api.OK {
				t.Fatal("opened", was, x, now)
			}
			add(now)
		}
		for i := range slots {
			for who := range 3 {
				now, e := Shut(was, i, who)
				if e != api.OK {
					continue
				}
				if changed(held(t, now), was[i]) != held(t, was) || now[i] != (api.Trade{}) {
					t.Fatal("shut", was, i, now)
				}
				add(now)
			}
		}
	}
	// Each slot is free, or has one of five trades: all of it is come to.
	if len(all) != 6*6*6 {
		t.Error(len(all))
	}
}
