package book

import (
	"math"
	"math/big"
	"math/rand/v2"
	"slices"
	"testing"

	"rialto/api"
)

const most = 1 << 62

// sells is an order that sells so much of coin 0 for so much of coin 1 each.
func sells(left, price uint64, seq int) api.Order {
	return api.Order{Used: true, Label: 2, Who: 3, Side: 2, Base: 0, Quote: 1, Price: price, Left: left, Reserve: left, Seq: seq}
}

// buys is one that buys so much of coin 0.
func buys(left, price uint64, seq int) api.Order {
	return api.Order{Used: true, Label: 4, Who: 5, Side: 1, Base: 0, Quote: 1, Price: price, Left: left, Reserve: left * price, Seq: seq}
}

// of is an order of other coins.
func of(x api.Order, base, quote int) api.Order {
	x.Base, x.Quote = base, quote
	return x
}

// by is an order of another owner.
func by(x api.Order, label, who int) api.Order {
	x.Label, x.Who = label, who
	return x
}

// numbers are such as a label's place, or an account, may have; others may not be.
func numbers() []int { return []int{0, 1, 2, 5, 8, 64, 126, 127} }

func others() []int {
	return []int{math.MinInt, math.MinInt32, -256, -128, -127, -1, 128, 129, 255, 256, 1 << 32, math.MaxInt}
}

// noCoins are numbers that are no coins; noSides ones that are no sides.
func noCoins() []int {
	return []int{math.MinInt, -256, -4, -2, -1, 4, 5, 127, 256, 1 << 32, math.MaxInt}
}

func noSides() []int {
	return []int{math.MinInt, -2, -1, 0, 3, 4, 5, 127, 257, 258, 1<<32 + 1, math.MaxInt}
}

// within are how much, and a price, of which the product is at most 2^62; above ones of which it is above.
func within() [][2]uint64 {
	return [][2]uint64{{1, 1}, {1, 7}, {7, 1}, {3, 5}, {most, 1}, {1, most}, {most - 1, 1}, {1, most - 1}, {1 << 31, 1 << 31}, {1 << 30, 1 << 32}, {1 << 61, 2}, {2, 1 << 61}, {3, most / 3}, {most / 3, 3}}
}

func above() [][2]uint64 {
	return [][2]uint64{
		{most + 1, 1}, {1, most + 1}, {1 << 31, 1<<31 + 1}, {1<<31 + 1, 1 << 31}, {2, 1<<61 + 1}, {3, most/3 + 1}, {most/3 + 1, 3}, {most, 2}, {most, most},
		{1 << 63, 1}, {1, 1 << 63}, {math.MaxUint64, 1}, {1, math.MaxUint64}, {math.MaxUint64, math.MaxUint64},
		// Products that are small again, or 0, where they leave 64 bits.
		{1 << 32, 1 << 32}, {1 << 63, 2}, {1<<32 + 1, 1 << 32}, {1 << 62, 4}, {1<<63 + 1, 2}, {math.MaxUint64/2 + 2, 2},
	}
}

// wrongOrders are orders that may not be, though they are Used.
func wrongOrders() []api.Order {
	var out []api.Order
	change := func(with func(x *api.Order)) {
		for _, x := range []api.Order{sells(3, 5, 0), buys(3, 5, 7)} {
			with(&x)
			out = append(out, x)
		}
	}
	for _, n := range others() {
		change(func(x *api.Order) { x.Label = n })
		change(func(x *api.Order) { x.Who = n })
	}
	for _, n := range noSides() {
		change(func(x *api.Order) { x.Side = n })
	}
	for _, n := range noCoins() {
		change(func(x *api.Order) { x.Base = n })
		change(func(x *api.Order) { x.Quote = n })
		change(func(x *api.Order) { x.Base, x.Quote = n, n })
	}
	for c := range 4 {
		change(func(x *api.Order) { x.Base, x.Quote = c, c })
	}
	for _, n := range []int{-1, -2, -128, math.MinInt32, math.MinInt} {
		change(func(x *api.Order) { x.Seq = n })
	}
	for _, n := range []uint64{0, 1, 2, 4, 5, 14, 16, most, most + 1, 1<<63 + 3, math.MaxUint64} {
		change(func(x *api.Order) { x.Reserve = n })
	}
	change(func(x *api.Order) { x.Side = 3 - x.Side })
	change(func(x *api.Order) { x.Left = 4 })
	dearer := buys(3, 5, 0)
	dearer.Price = 6
	out = append(out, dearer, api.Order{Used: true}, api.Order{Used: true, Quote: 1})
	for _, x := range append(above(), [2]uint64{0, 0}, [2]uint64{0, 5}, [2]uint64{5, 0}) {
		out = append(out, sells(x[0], x[1], 0), buys(x[0], x[1], 0))
	}
	return out
}

// wrongSlots are slots that may not be.
func wrongSlots() []api.Order {
	free := sells(3, 5, 0)
	free.Used = false
	return append([]api.Order{
		free, {Label: 1}, {Label: -1}, {Who: 1}, {Side: 1}, {Side: 2}, {Base: 1}, {Quote: 1}, {Price: 1}, {Left: 1}, {Reserve: 1}, {Seq: 1}, {Seq: -1},
	}, wrongOrders()...)
}

// wrongLists are lists that may not be, with free slots, and with orders that may be.
func wrongLists() [][]api.Order {
	a, b := sells(1, 9, 100), buys(1, 1, 101)
	out := [][]api.Order{{sells(3, 5, 7), {}, buys(3, 1, 7)}, {{}, sells(3, 5, 0), sells(3, 5, 0)}, {a, {}, b, a}, {a, b, {}, sells(2, 9, 101)}}
	for _, x := range wrongSlots() {
		out = append(out, []api.Order{x, {}}, []api.Order{{}, x}, []api.Order{a, {}, x, b})
	}
	return out
}

// lists are all lists of up to three slots, each free, or with one of some few orders, with the Seqs in some orders, that may be.
func lists() [][]api.Order {
	some := []api.Order{{}}
	for price := range uint64(3) {
		for left := range uint64(2) {
			some = append(some, sells(left+1, price+2, 0), buys(left+1, price+2, 0))
		}
	}
	out := [][]api.Order{nil, {}}
	add := func(l ...api.Order) {
		for _, seqs := range [][]int{{0, 1, 2}, {9, 5, 3}, {4, 127, 0}} {
			now := slices.Clone(l)
			for i := range now {
				if now[i].Used {
					now[i].Seq = seqs[i]
				}
			}
			out = append(out, now)
		}
	}
	for _, a := range some {
		add(a)
		for _, b := range some {
			add(a, b)
			for _, c := range some {
				add(a, b, c)
			}
		}
	}
	return out
}

// fewLists are some of the lists.
func fewLists() [][]api.Order {
	var out [][]api.Order
	for i, l := range lists() {
		if i < 50 || i%37 == 0 {
			out = append(out, l)
		}
	}
	return out
}

// with is a list in which another order stands at a slot.
func with(l []api.Order, i int, x api.Order) []api.Order {
	out := slices.Clone(l)
	out[i] = x
	return out
}

// used is the slots of those that are Used, one by one.
func used(l []api.Order) []int {
	var out []int
	for i := range l {
		if l[i].Used {
			out = append(out, i)
		}
	}
	return out
}

// slotsAsked are slots that are there, and ones that are not.
func slotsAsked() []int { return []int{math.MinInt, -128, -1, 0, 1, 2, 3, 4, 127, math.MaxInt} }

// P19.1

func TestNeed(t *testing.T) {
	for _, x := range within() {
		if n, e := Need(2, x[0], x[1]); n != x[0] || e != api.OK {
			t.Error("sell", x, n, e)
		}
		if n, e := Need(1, x[0], x[1]); n != x[0]*x[1] || e != api.OK {
			t.Error("buy", x, n, e)
		}
	}
	for _, x := range above() {
		for side := 1; side <= 2; side++ {
			if n, e := Need(side, x[0], x[1]); n != 0 || e != api.ErrOver {
				t.Error("above", side, x, n, e)
			}
		}
	}
	for _, n := range []uint64{0, 1, 2, most, most + 1, math.MaxUint64} {
		for side := 1; side <= 2; side++ {
			for _, x := range [][2]uint64{{0, n}, {n, 0}} {
				if got, e := Need(side, x[0], x[1]); got != 0 || e != api.ErrArg {
					t.Error("nothing", side, x, got, e)
				}
			}
		}
	}
	for _, side := range noSides() {
		// Ahead of a product that is above.
		for _, x := range append(append(within(), above()...), [2]uint64{}) {
			if n, e := Need(side, x[0], x[1]); n != 0 || e != api.ErrArg {
				t.Error("no side", side, x, n, e)
			}
		}
	}
}

// may holds May against what it must be, of an order that is Used, and of one that is not, and Right of a list with it.
func may(t *testing.T, x api.Order, want bool) {
	t.Helper()
	x.Used = true
	if May(x) != want || Right([]api.Order{x}) != want || Right([]api.Order{{}, x, {}}) != want {
		t.Error(x, "may be is not", want)
	}
	x.Used = false
	if May(x) != want || Right([]api.Order{x}) != (x == api.Order{}) {
		t.Error(x, "that is not Used, may be is not", want)
	}
}

func TestMay(t *testing.T) {
	for _, x := range within() {
		may(t, sells(x[0], x[1], 0), true)
		may(t, buys(x[0], x[1], 0), true)
	}
	for _, x := range []api.Order{sells(3, 5, 0), buys(3, 5, 0)} {
		for _, label := range numbers() {
			for _, who := range numbers() {
				may(t, by(x, label, who), true)
			}
		}
		for base := range 4 {
			for quote := range 4 {
				may(t, of(x, base, quote), base != quote)
			}
		}
		for _, seq := range []int{0, 1, 127, 128, 255, 256, 1 << 32, math.MaxInt} {
			x.Seq = seq
			may(t, x, true)
		}
		for n := range uint64(100) {
			reserve := x
			reserve.Reserve = n
			may(t, reserve, n == x.Reserve)
		}
	}
	for _, x := range wrongOrders() {
		may(t, x, false)
	}
	if May(api.Order{}) {
		t.Error("a slot that is free has no order")
	}
}

func TestRight(t *testing.T) {
	for _, l := range append(lists(), make([]api.Order, 5000)) {
		if !Right(l) {
			t.Error("may be", l)
		}
	}
	for _, l := range wrongLists() {
		if Right(l) {
			t.Error("may not be", l)
		}
	}
	for _, x := range wrongSlots() {
		if Right([]api.Order{x}) {
			t.Error("may not be", x)
		}
	}
	long := make([]api.Order, 3000)
	for i := range long {
		long[i] = sells(1, 1, len(long)-i)
	}
	if !Right(long) {
		t.Error("a long list may be")
	}
	long[2999].Seq = long[5].Seq
	if Right(long) {
		t.Error("a Seq twice in a long list")
	}
	// A free slot has no Seq.
	if !Right([]api.Order{{}, sells(1, 1, 0), {}}) {
		t.Error("free slots beside the Seq 0")
	}
}

// P19.2

// answer is what Post answers.
type answer struct {
	list    []api.Order
	fills   []api.Fill
	slot    int
	surplus uint64
}

// posted is the answer of Post, where it is not an error.
func posted(t *testing.T, l []api.Order, o api.Order) answer {
	t.Helper()
	list, fills, slot, surplus, e := Post(l, o)
	if e != api.OK {
		t.Fatal("Post", l, o, e)
	}
	return answer{list, fills, slot, surplus}
}

// same holds an answer against what it must be.
func same(t *testing.T, what any, got, want answer) {
	t.Helper()
	if !slices.Equal(got.list, want.list) || !slices.Equal(got.fills, want.fills) || got.slot != want.slot || got.surplus != want.surplus {
		t.Error(what, "is", got, "and not", want)
	}
}

// better tells whether the first one of two orders that one meets is the better one.
func better(x, y api.Order) bool {
	if x.Price != y.Price {
		return (x.Price < y.Price) == (x.Side == 2)
	}
	return x.Seq < y.Seq
}

// crossed tells whether two orders meet.
func crossed(x, y api.Order) bool {
	if !x.Used || !y.Used || x.Base != y.Base || x.Quote != y.Quote {
		return false
	}
	return x.Side == 1 && y.Side == 2 && y.Price <= x.Price || x.Side == 2 && y.Side == 1 && x.Price <= y.Price
}

// step lets an order get one of Base for each, of the best one that it meets; its slot, or -1.
func step(l []api.Order, o *api.Order) int {
	at := -1
	for i := range l {
		if crossed(*o, l[i]) && (at < 0 || better(l[i], l[at])) {
			at = i
		}
	}
	if at < 0 || o.Left == 0 {
		return -1
	}
	paid := l[at].Price
	for _, x := range []*api.Order{o, &l[at]} {
		x.Left--
		if x.Side == 2 {
			x.Reserve--
		} else {
			x.Reserve -= paid
		}
	}
	if l[at].Left == 0 {
		l[at] = api.Order{}
	}
	return at
}

// stepped is what Post must answer, with fills that were made one by one.
func stepped(l []api.Order, o api.Order) answer {
	want := answer{list: slices.Clone(l), slot: -1}
	o.Used = true
	prices := map[int]uint64{}
	for i := range l {
		prices[i] = l[i].Price
	}
	for i := step(want.list, &o); i >= 0; i = step(want.list, &o) {
		if n := len(want.fills); n == 0 || want.fills[n-1].Slot != i {
			want.fills = append(want.fills, api.Fill{Slot: i, Price: prices[i]})
		}
		want.fills[len(want.fills)-1].Qty++
	}
	need := o.Left
	if o.Side == 1 {
		need = o.Left * o.Price
	}
	want.surplus = o.Reserve - need
	o.Reserve = need
	if o.Left > 0 {
		want.slot = slices.Index(want.list, api.Order{})
		want.list[want.slot] = o
	}
	return want
}

func TestExample(t *testing.T) {
	there := sells(3, 5, 0)
	same(t, "Buy 5 at 7", posted(t, []api.Order{there, {}}, buys(5, 7, 1)), answer{[]api.Order{buys(2, 7, 1), {}}, []api.Fill{{Slot: 0, Qty: 3, Price: 5}}, 0, 6})
	same(t, "Buy 5 at 4", posted(t, []api.Order{there, {}}, buys(5, 4, 1)), answer{[]api.Order{there, buys(5, 4, 1)}, nil, 1, 0})
	same(t, "Buy 3 at 5", posted(t, []api.Order{there, {}}, buys(3, 5, 1)), answer{[]api.Order{{}, {}}, []api.Fill{{Slot: 0, Qty: 3, Price: 5}}, -1, 0})
	same(t, "Buy 1 at 6", posted(t, []api.Order{there, {}}, buys(1, 6, 1)), answer{[]api.Order{sells(2, 5, 0), {}}, []api.Fill{{Slot: 0, Qty: 1, Price: 5}}, -1, 1})
}

func TestSell(t *testing.T) {
	there := buys(3, 5, 0)
	// Who sells gets the price of the one that was there, and has no surplus.
	same(t, "Sell 5 at 2", posted(t, []api.Order{there, {}}, sells(5, 2, 1)), answer{[]api.Order{sells(2, 2, 1), {}}, []api.Fill{{Slot: 0, Qty: 3, Price: 5}}, 0, 0})
	same(t, "Sell 5 at 6", posted(t, []api.Order{there, {}}, sells(5, 6, 1)), answer{[]api.Order{there, sells(5, 6, 1)}, nil, 1, 0})
	same(t, "Sell 2 at 5", posted(t, []api.Order{there, {}}, sells(2, 5, 1)), answer{[]api.Order{buys(1, 5, 0), {}}, []api.Fill{{Slot: 0, Qty: 2, Price: 5}}, -1, 0})
}

func TestPost(t *testing.T) {
	for _, l := range lists() {
		was := slices.Clone(l)
		for price := uint64(1); price <= 5; price++ {
			for left := uint64(1); left <= 5; left++ {
				for _, o := range []api.Order{sells(left, price, 50), buys(left, price, 1)} {
					if slices.ContainsFunc(l, func(x api.Order) bool { return x.Seq == o.Seq }) {
						o.Seq = 60
					}
					o.Used = price%2 == 0
					if !slices.Contains(l, api.Order{}) {
						refused(t, l, o, api.ErrFull)
						continue
					}
					same(t, []any{l, o}, posted(t, l, o), stepped(was, o))
				}
			}
		}
		if !slices.Equal(l, was) {
			t.Error("changed", was, l)
		}
	}
}

// The best price comes first, whatever its slot and its Seq are; of one price the least Seq, whatever its slot is.
func TestBest(t *testing.T) {
	l := []api.Order{sells(1, 9, 0), sells(2, 7, 8), sells(3, 7, 5), sells(4, 6, 9), {}, sells(5, 7, 6)}
	same(t, "Buy", posted(t, l, buys(16, 8, 20)), answer{
		[]api.Order{sells(1, 9, 0), buys(2, 8, 20), {}, {}, {}, {}},
		[]api.Fill{{Slot: 3, Qty: 4, Price: 6}, {Slot: 2, Qty: 3, Price: 7}, {Slot: 5, Qty: 5, Price: 7}, {Slot: 1, Qty: 2, Price: 7}}, 1, 4*2 + 10,
	})
	l = []api.Order{buys(1, 1, 0), buys(2, 7, 8), buys(3, 7, 5), buys(4, 8, 9), {}, buys(5, 7, 6)}
	same(t, "Sell", posted(t, l, sells(16, 2, 20)), answer{
		[]api.Order{buys(1, 1, 0), sells(2, 2, 20), {}, {}, {}, {}},
		[]api.Fill{{Slot: 3, Qty: 4, Price: 8}, {Slot: 2, Qty: 3, Price: 7}, {Slot: 5, Qty: 5, Price: 7}, {Slot: 1, Qty: 2, Price: 7}}, 1, 0,
	})
	// One that is left in part keeps its slot, its owner and its Seq.
	same(t, "in part", posted(t, []api.Order{{}, by(sells(9, 7, 8), 126, 127)}, buys(4, 7, 20)), answer{
		[]api.Order{{}, by(sells(5, 7, 8), 126, 127)}, []api.Fill{{Slot: 1, Qty: 4, Price: 7}}, -1, 0,
	})
}

// Orders meet of just the same coins, and of one owner too.
func TestMeet(t *testing.T) {
	o := buys(5, 7, 20)
	for base := range 4 {
		for quote := range 4 {
			if base == quote {
				continue
			}
			there := of(sells(3, 5, 0), base, quote)
			want := answer{[]api.Order{there, o}, nil, 1, 0}
			if base == 0 && quote == 1 {
				want = answer{[]api.Order{buys(2, 7, 20), {}}, []api.Fill{{Slot: 0, Qty: 3, Price: 5}}, 0, 6}
			}
			same(t, []int{base, quote}, posted(t, []api.Order{there, {}}, o), want)
			// Of these coins all is as of 0 and 1.
			want = answer{[]api.Order{of(buys(2, 7, 20), base, quote), {}}, []api.Fill{{Slot: 0, Qty: 3, Price: 5}}, 0, 6}
			same(t, []int{base, quote}, posted(t, []api.Order{there, {}}, of(o, base, quote)), want)
		}
	}
	same(t, "one side", posted(t, []api.Order{buys(3, 9, 0), {}}, o), answer{[]api.Order{buys(3, 9, 0), o}, nil, 1, 0})
	own := by(sells(5, 7, 0), o.Label, o.Who)
	same(t, "one owner", posted(t, []api.Order{own, {}}, o), answer{[]api.Order{{}, {}}, []api.Fill{{Slot: 0, Qty: 5, Price: 7}}, -1, 0})
}

func TestGreatNumbers(t *testing.T) {
	for _, x := range within() {
		n, price := x[0], x[1]
		for _, pair := range [][2]api.Order{{sells(n, price, 0), buys(n, price, 1)}, {buys(n, price, 0), sells(n, price, 1)}} {
			same(t, pair, posted(t, []api.Order{{}, pair[0]}, pair[1]), answer{[]api.Order{{}, {}}, []api.Fill{{Slot: 1, Qty: n, Price: price}}, -1, 0})
		}
		same(t, "all of it is more than is there", posted(t, []api.Order{{}, sells(1, 1, 0)}, buys(n, price, 1)), stepped([]api.Order{{}, sells(1, 1, 0)}, buys(n, price, 1)))
		same(t, "more is there", posted(t, []api.Order{{}, buys(n, price, 0)}, sells(1, 1, 1)), stepped([]api.Order{{}, buys(n, price, 0)}, sells(1, 1, 1)))
	}
	same(t, "much comes back", posted(t, []api.Order{{}, sells(1, 1, 0)}, buys(1, most, 1)), answer{[]api.Order{{}, {}}, []api.Fill{{Slot: 1, Qty: 1, Price: 1}}, -1, most - 1})
	same(t, "for little, all", posted(t, []api.Order{{}, buys(1, most, 0)}, sells(most, 1, 1)), answer{[]api.Order{sells(most-1, 1, 1), {}}, []api.Fill{{Slot: 1, Qty: 1, Price: most}}, 0, 0})
	same(t, "none meets", posted(t, []api.Order{{}, sells(1, most, 0)}, buys(1, most-1, 1)), answer{[]api.Order{buys(1, most-1, 1), sells(1, most, 0)}, nil, 0, 0})
}

// refused holds what Post answers against an error, with nothing beside it, of an order that is Used, and of one that is not.
func refused(t *testing.T, l []api.Order, o api.Order, want api.Errno) {
	t.Helper()
	for _, used := range []bool{true, false} {
		o.Used = used
		if list, fills, slot, surplus, e := Post(l, o); len(list) != 0 || len(fills) != 0 || slot != 0 || surplus != 0 || e != want {
			t.Error(l, o, "is", list, fills, slot, surplus, e, "and not", want)
		}
	}
}

func TestWrongPost(t *testing.T) {
	a, b := sells(3, 5, 0), buys(3, 1, 7)
	for _, o := range append(wrongOrders(), api.Order{}) {
		// Ahead of a list that is full.
		for _, l := range [][]api.Order{nil, {}, {{}}, {a}, {a, {}, b}} {
			refused(t, l, o, api.ErrArg)
		}
	}
	for _, l := range wrongLists() {
		refused(t, l, buys(5, 7, 50), api.ErrArg)
		refused(t, l, api.Order{}, api.ErrArg)
	}
	for _, x := range wrongSlots() {
		refused(t, []api.Order{x}, buys(5, 7, 50), api.ErrArg)
	}
	for _, o := range []api.Order{sells(1, 9, 7), buys(1, 1, 0), buys(9, 9, 0), of(buys(1, 1, 7), 2, 3), a, b} {
		refused(t, []api.Order{a, {}, b}, o, api.ErrArg)
		refused(t, []api.Order{a, b}, o, api.ErrArg)
	}
	// A free slot has no Seq that is taken.
	same(t, "the Seq 0", posted(t, []api.Order{{}, b}, a), answer{[]api.Order{a, b}, nil, 0, 0})
}

// A slot must be free ahead, also where all would be filled, or a slot would come free.
func TestFull(t *testing.T) {
	a, b := sells(3, 5, 0), buys(3, 1, 7)
	for _, o := range []api.Order{buys(3, 5, 9), buys(9, 9, 9), buys(1, 5, 9), sells(3, 1, 9), sells(1, 9, 9)} {
		refused(t, []api.Order{a, b}, o, api.ErrFull)
		refused(t, nil, o, api.ErrFull)
		refused(t, []api.Order{}, o, api.ErrFull)
	}
}

// P19.3

func TestPull(t *testing.T) {
	for _, l := range fewLists() {
		for i := range l {
			if l[i].Used {
				l[i].Label, l[i].Who = i, 127-i
			}
		}
		was := slices.Clone(l)
		for _, i := range slotsAsked() {
			for _, label := range append(numbers(), others()...) {
				for _, who := range []int{-1, 0, 124, 125, 126, 127, 128} {
					want, f := []api.Order(nil), api.ErrNone
					var order api.Order
					if slices.Contains(used(was), i) {
						f = api.ErrDenied
					}
					if f == api.ErrDenied && label == i && who == 127-i {
						want, order, f = with(was, i, api.Order{}), was[i], api.OK
					}
					if got, x, e := Pull(l, i, label, who); !slices.Equal(got, want) || x != order || e != f {
						t.Error(l, i, label, who, got, x, e, f)
					}
				}
			}
		}
		if !slices.Equal(l, was) {
			t.Error("changed", was, l)
		}
	}
	for _, l := range wrongLists() {
		for i := -1; i <= len(l); i++ {
			// Also of an order that may be, beside one that may not.
			for _, owner := range [][2]int{{2, 3}, {4, 5}, {-1, -1}, {0, 0}} {
				if got, x, e := Pull(l, i, owner[0], owner[1]); len(got) != 0 || x != (api.Order{}) || e != api.ErrArg {
					t.Error("may not be", l, i, owner, got, x, e)
				}
			}
		}
	}
}

func TestPullOfAnother(t *testing.T) {
	l := []api.Order{{}, by(sells(3, 5, 0), 7, 9)}
	for _, x := range [][2]int{{7, 8}, {9, 7}, {8, 9}, {0, 0}, {9, 9}, {7, 7}, {-1, 9}, {7, math.MaxInt}} {
		if got, o, e := Pull(l, 1, x[0], x[1]); len(got) != 0 || o != (api.Order{}) || e != api.ErrDenied {
			t.Error("another's", x, got, o, e)
		}
		if got, o, e := Pull(l, 0, x[0], x[1]); len(got) != 0 || o != (api.Order{}) || e != api.ErrNone {
			t.Error("none", x, got, o, e)
		}
	}
	if got, o, e := Pull(l, 1, 7, 9); !slices.Equal(got, make([]api.Order, 2)) || o != l[1] || e != api.OK {
		t.Error("theirs", got, o, e)
	}
}

func TestSlots(t *testing.T) {
	for _, l := range append(lists(), wrongLists()...) {
		was := slices.Clone(l)
		if got := Slots(l); !slices.Equal(got, used(was)) {
			t.Error(l, got)
		}
		if !slices.Equal(l, was) {
			t.Error("changed", was, l)
		}
	}
	if len(Slots(nil)) != 0 || len(Slots([]api.Order{})) != 0 || len(Slots(make([]api.Order, 9))) != 0 {
		t.Error("of no orders")
	}
}

// reserved is how much of a coin all Reserves hold, reckoned without an end.
func reserved(l []api.Order, c int) *big.Int {
	n := new(big.Int)
	for _, x := range l {
		if x.Used && (x.Side == 2 && x.Base == c || x.Side != 2 && x.Quote == c) {
			n.Add(n, new(big.Int).SetUint64(x.Reserve))
		}
	}
	return n
}

func TestHeld(t *testing.T) {
	all := append(fewLists(), wrongLists()...)
	edges := []uint64{1, 1 << 61, most - 1, most, most + 1, 1 << 63, math.MaxUint64}
	for _, a := range edges {
		for _, b := range edges {
			// Sums that leave 64 bits too, and amounts of other coins beside them.
			all = append(all, []api.Order{sells(a, 1, 0), sells(b, 1, 1)}, []api.Order{buys(1, a, 0), {}, sells(b, 1, 1), buys(1, 1, 2)}, []api.Order{buys(a, 1, 0), buys(1, b, 1), of(sells(b, 1, 2), 1, 3), of(buys(a, 1, 2), 2, 1)})
		}
	}
	for _, l := range all {
		was := slices.Clone(l)
		for c := range 4 {
			n, e := Held(l, c)
			want := reserved(was, c)
			if want.Cmp(big.NewInt(most)) > 0 {
				if n != 0 || e != api.ErrOver {
					t.Error("over", l, c, n, e)
				}
				continue
			}
			if e != api.OK || n != want.Uint64() {
				t.Error(l, c, n, e, want)
			}
		}
		for _, c := range noCoins() {
			// Ahead of a sum that is above.
			if n, e := Held(l, c); n != 0 || e != api.ErrArg {
				t.Error("no coin", l, c, n, e)
			}
		}
		if !slices.Equal(l, was) {
			t.Error("changed", was, l)
		}
	}
	for c := range 4 {
		if n, e := Held(nil, c); n != 0 || e != api.OK {
			t.Error("of no orders", n, e)
		}
	}
}

// Of any list, as it stands: of any Side but Sell it is of its Quote, whatever else stands there.
func TestHeldAsItStands(t *testing.T) {
	l := []api.Order{
		{Used: true, Side: 2, Base: 0, Quote: 1, Reserve: 10}, {Used: true, Side: 1, Base: 0, Quote: 1, Reserve: 100}, {Used: true, Side: 3, Base: 0, Quote: 2, Reserve: 1000},
		{Used: true, Side: 0, Base: 0, Quote: 3, Reserve: 5}, {Used: true, Side: -7, Base: 2, Quote: 3, Reserve: 6}, {Used: true, Side: 2, Base: 3, Quote: 3, Reserve: 20},
		{Side: 2, Base: 0, Quote: 1, Reserve: 77}, {Side: 1, Base: 0, Quote: 1, Reserve: 78}, {},
		{Used: true, Side: 2, Base: 4, Quote: 0, Reserve: math.MaxUint64}, {Used: true, Side: 1, Base: 0, Quote: -1, Reserve: math.MaxUint64},
	}
	for c, want := range []uint64{10, 100, 1000, 31} {
		if n, e := Held(l, c); n != want || e != api.OK {
			t.Error(c, n, e)
		}
	}
}

// P19.4 and P19.5

// given is how much of a coin fills give out, reckoned without an end.
func given(fills []api.Fill, o api.Order, c int) *big.Int {
	n := new(big.Int)
	for _, f := range fills {
		qty := new(big.Int).SetUint64(f.Qty)
		switch c {
		case o.Base:
			n.Add(n, qty)
		case o.Quote:
			n.Add(n, qty.Mul(qty, new(big.Int).SetUint64(f.Price)))
		}
	}
	return n
}

// kept holds what is held behind a post, and ahead of it, against each other, of each coin.
func kept(t *testing.T, l []api.Order, o api.Order, got answer) {
	t.Helper()
	own := o
	own.Used = true
	for c := range 4 {
		ahead := reserved(append(slices.Clone(l), own), c)
		behind := new(big.Int).Add(reserved(got.list, c), given(got.fills, o, c))
		// Who sells has none.
		if o.Side == 2 && got.surplus != 0 {
			t.Fatal("surplus of", o, got)
		}
		if c == o.Quote {
			behind.Add(behind, new(big.Int).SetUint64(got.surplus))
		}
		if ahead.Cmp(behind) != 0 {
			t.Fatal("lost", l, o, c, ahead, behind)
		}
	}
}

// crossing tells whether an order of a list meets another one.
func crossing(l []api.Order) bool {
	return slices.ContainsFunc(l, func(x api.Order) bool {
		return slices.ContainsFunc(l, func(y api.Order) bool { return crossed(x, y) })
	})
}

// follows holds against each other what follows of a post.
func follows(t *testing.T, l []api.Order, o api.Order, got answer) {
	t.Helper()
	kept(t, l, o, got)
	if !Right(got.list) || len(got.list) != len(l) {
		t.Fatal("may not be", l, o, got)
	}
	if !crossing(l) && crossing(got.list) {
		t.Fatal("meet", l, o, got)
	}
	for i, f := range got.fills {
		if f.Qty == 0 || l[f.Slot].Price != f.Price || !crossed(l[f.Slot], o) {
			t.Fatal("fill", l, o, f)
		}
		if i > 0 && !better(l[got.fills[i-1].Slot], l[f.Slot]) {
			t.Fatal("not from the best on", l, o, got.fills)
		}
	}
}

func TestAllThatComesOfFew(t *testing.T) {
	var goOn func(l []api.Order, seq int)
	goOn = func(l []api.Order, seq int) {
		if crossing(l) {
			t.Fatal("meet", l)
		}
		if seq == 4 {
			return
		}
		for _, o := range []api.Order{sells(1, 2, seq), sells(3, 2, seq), sells(2, 3, seq), buys(1, 2, seq), buys(2, 3, seq), buys(3, 4, seq), of(buys(1, 1, seq), 1, 0)} {
			got := answer{}
			var e api.Errno
			if got.list, got.fills, got.slot, got.surplus, e = Post(l, o); e == api.ErrFull {
				continue
			}
			follows(t, l, o, got)
			goOn(got.list, seq+1)
		}
		for _, i := range used(l) {
			now, x, e := Pull(l, i, l[i].Label, l[i].Who)
			if e != api.OK || x != l[i] || !slices.Equal(now, with(l, i, api.Order{})) || !Right(now) {
				t.Fatal("Pull", l, i, now, x, e)
			}
			goOn(now, seq+1)
		}
	}
	goOn(make([]api.Order, 3), 0)
}

func TestAllThatComesOfMany(t *testing.T) {
	r := rand.New(rand.NewPCG(1, 2))
	l := make([]api.Order, 8)
	fills := 0
	for seq := range 20000 {
		if seq%5 == 0 {
			i := r.IntN(len(l))
			if now, _, e := Pull(l, i, 2, 3); e == api.OK {
				l = now
			}
			continue
		}
		o := []func(left, price uint64, seq int) api.Order{sells, buys}[r.IntN(2)](1+r.Uint64N(1<<r.IntN(31)), 1+r.Uint64N(1<<31), seq)
		got := answer{}
		var e api.Errno
		if got.list, got.fills, got.slot, got.surplus, e = Post(l, o); e == api.ErrFull {
			// Some room again.
			l = with(l, r.IntN(len(l)), api.Order{})
			continue
		}
		o.Used = true
		follows(t, l, o, got)
		l = got.list
		fills += len(got.fills)
	}
	if fills < 1000 {
		t.Error("few fills", fills)
	}
}

// Lists that may be, in which orders meet already, hold what they hold too.
func TestFollowsOfAnyList(t *testing.T) {
	for _, l := range lists() {
		if !slices.Contains(l, api.Order{}) {
			continue
		}
		for _, o := range []api.Order{sells(4, 1, 50), sells(2, 3, 50), buys(4, 9, 50), buys(2, 3, 50)} {
			follows(t, l, o, posted(t, l, o))
		}
	}
}

// The rules of lists and memory

// answers are lists that come of one with an order of 2, 3 that sells at 0, and with a free slot at 2.
func answers(l []api.Order) [][]api.Order {
	rests, _, _, _, _ := Post(l, buys(1, 1, 50))
	fills, _, _, _, _ := Post(l, buys(1, 9, 50))
	pulled, _, _ := Pull(l, 0, 2, 3)
	return [][]api.Order{rests, fills, pulled}
}

func TestNewMemory(t *testing.T) {
	l := []api.Order{sells(3, 5, 0), sells(3, 6, 1), {}}
	was := slices.Clone(l)
	for i, got := range answers(l) {
		if len(got) != 3 {
			t.Fatal(i, got)
		}
		for k := range got {
			got[k] = buys(9, 9, 9)
		}
		_ = append(got, buys(9, 9, 9))
		if !slices.Equal(l, was) {
			t.Fatal("what was handed in has memory in common", i, l)
		}
	}
	Slots(l)[0] = 7
	if !slices.Equal(Slots(l), []int{0, 1}) {
		t.Error("slots have memory in common")
	}
	all := answers(l)
	clear(l)
	if !slices.Equal(all[0], with(was, 2, buys(1, 1, 50))) || !slices.Equal(all[1], with(was, 0, sells(2, 5, 0))) || !slices.Equal(all[2], with(was, 0, api.Order{})) {
		t.Error("what was handed in is kept", all)
	}
}

func TestBehindTheEnd(t *testing.T) {
	a, wrong := sells(3, 5, 0), sells(0, 5, 1)
	l := []api.Order{a, buys(1, 1, 1), {}, wrong, sells(1, 1, 2)}
	if !Right(l[:3]) {
		t.Error("Right behind the end")
	}
	refused(t, l[:2], buys(1, 1, 50), api.ErrFull)
	if !slices.Equal(Slots(l[:3]), []int{0, 1}) || len(Slots(l[:1])) != 1 {
		t.Error("Slots behind the end")
	}
	if _, _, e := Pull(l[:1], 1, 4, 5); e != api.ErrNone {
		t.Error("Pull behind the end", e)
	}
	if n, e := Held(l[:3], 0); n != 3 || e != api.OK {
		t.Error("Held behind the end", n, e)
	}
	// The Seq behind the end is not taken, and who sells there is not met.
	got := posted(t, l[:3], buys(2, 4, 2))
	pulled, _, e := Pull(l[:3], 0, 2, 3)
	if !slices.Equal(got.list, []api.Order{a, l[1], buys(2, 4, 2)}) || e != api.OK || !slices.Equal(pulled, []api.Order{{}, l[1], {}}) {
		t.Error("what lies behind is read", got, pulled, e)
	}
	for _, now := range [][]api.Order{got.list, pulled} {
		_ = append(now, buys(9, 9, 9))
		if slices.Contains(now[:cap(now)], wrong) || l[3] != wrong || l[4] != sells(1, 1, 2) {
			t.Error("what lies behind is written or handed out", l)
		}
	}
}
