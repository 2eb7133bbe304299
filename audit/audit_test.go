package audit

import (
	"bytes"
	"math"
	"slices"
	"testing"

	"rialto/api"
)

const most = 1 << 62

// buy, sell and pull are entries of a round and a line.
func buy(round uint64, line int) api.Entry {
	return api.Entry{Round: round, Line: line, Label: 3, Who: 4, Side: 1, Base: 0, Quote: 1, Qty: 3, Price: 5}
}

func sell(round uint64, line int) api.Entry {
	return api.Entry{Round: round, Line: line, Label: 5, Who: 6, Side: 2, Base: 3, Quote: 2, Qty: 7, Price: 9}
}

func pull(round uint64, line int) api.Entry {
	return api.Entry{Round: round, Line: line, Label: 7, Who: 8, Side: 3, Slot: 9}
}

// kinds are an entry of each Side.
func kinds(round uint64, line int) []api.Entry {
	return []api.Entry{buy(round, line), sell(round, line), pull(round, line)}
}

// changed is an entry that was changed.
func changed(x api.Entry, change func(x *api.Entry)) api.Entry {
	change(&x)
	return x
}

// numbers are such as a line, a label's place, an account and a slot may have; others may not be.
func numbers() []int { return []int{0, 1, 2, 3, 5, 8, 64, 126, 127} }

func others() []int {
	return []int{math.MinInt, math.MinInt32, -256, -128, -127, -1, 128, 129, 255, 256, 257, 1 << 32, math.MaxInt}
}

// rounds are such as there may be; late ones may not be.
func rounds() []uint64 { return []uint64{0, 1, 255, 256, 1 << 32, most - 1, most} }

func late() []uint64 { return []uint64{most + 1, 1 << 63, math.MaxUint64} }

// noCoins are numbers that are no coins; noSides ones that are no sides of an entry.
func noCoins() []int {
	return []int{math.MinInt, -256, -4, -1, 4, 5, 127, 255, 256, 257, 1 << 32, math.MaxInt}
}

func noSides() []int {
	return []int{math.MinInt, -3, -1, 0, 4, 5, 127, 255, 257, 258, 259, 1<<32 + 1, math.MaxInt}
}

// within are how much, and a price, of which the product is at most 2^62; wrong ones are all others.
func within() [][2]uint64 {
	return [][2]uint64{{1, 1}, {1, 7}, {7, 1}, {most, 1}, {1, most}, {1 << 31, 1 << 31}, {1 << 61, 2}, {2, 1 << 61}, {3, most / 3}, {256, 255}}
}

func wrong() [][2]uint64 {
	return [][2]uint64{
		{0, 0}, {0, 1}, {1, 0}, {0, most}, {most, 0}, {most + 1, 1}, {1, most + 1}, {1 << 31, 1<<31 + 1}, {2, 1<<61 + 1}, {3, most/3 + 1},
		{math.MaxUint64, 1}, {1, math.MaxUint64}, {1 << 32, 1 << 32}, {1 << 63, 2}, {1<<63 + 1, 2}, {math.MaxUint64, math.MaxUint64},
	}
}

// rightEntries are entries that may be.
func rightEntries() []api.Entry {
	var out []api.Entry
	for _, x := range kinds(2, 1) {
		out = append(out, x)
		for _, n := range rounds() {
			out = append(out, changed(x, func(x *api.Entry) { x.Round = n }))
		}
		for _, n := range numbers() {
			out = append(out, changed(x, func(x *api.Entry) { x.Line = n }), changed(x, func(x *api.Entry) { x.Label = n }), changed(x, func(x *api.Entry) { x.Who = n }))
		}
	}
	for _, n := range numbers() {
		out = append(out, changed(pull(2, 1), func(x *api.Entry) { x.Slot = n }))
	}
	for _, x := range []api.Entry{buy(2, 1), sell(2, 1)} {
		for base := range 4 {
			for quote := range 4 {
				if base != quote {
					out = append(out, changed(x, func(x *api.Entry) { x.Base, x.Quote = base, quote }))
				}
			}
		}
		for _, n := range within() {
			out = append(out, changed(x, func(x *api.Entry) { x.Qty, x.Price = n[0], n[1] }))
		}
	}
	return append(out, api.Entry{Side: 3}, api.Entry{Round: most, Line: 127, Label: 127, Who: 127, Side: 3, Slot: 127})
}

// wrongEntries are entries that may not be.
func wrongEntries() []api.Entry {
	var out []api.Entry
	for _, x := range kinds(2, 1) {
		change := func(with func(x *api.Entry)) { out = append(out, changed(x, with)) }
		for _, n := range late() {
			change(func(x *api.Entry) { x.Round = n })
		}
		for _, n := range others() {
			change(func(x *api.Entry) { x.Line = n })
			change(func(x *api.Entry) { x.Label = n })
			change(func(x *api.Entry) { x.Who = n })
			change(func(x *api.Entry) { x.Slot = n })
		}
		for _, n := range noSides() {
			change(func(x *api.Entry) { x.Side = n })
		}
		for _, n := range noCoins() {
			change(func(x *api.Entry) { x.Base = n })
			change(func(x *api.Entry) { x.Quote = n })
			change(func(x *api.Entry) { x.Base, x.Quote = n, n })
		}
	}
	for _, x := range []api.Entry{buy(2, 1), sell(2, 1)} {
		for c := range 4 {
			out = append(out, changed(x, func(x *api.Entry) { x.Base, x.Quote = c, c }))
		}
		for _, n := range wrong() {
			out = append(out, changed(x, func(x *api.Entry) { x.Qty, x.Price = n[0], n[1] }))
		}
		for _, n := range numbers() {
			if n != 0 {
				out = append(out, changed(x, func(x *api.Entry) { x.Slot = n }))
			}
		}
		out = append(out, changed(x, func(x *api.Entry) { x.Side = 3 }), changed(x, func(x *api.Entry) { x.Side, x.Qty, x.Price = 3, 0, 0 }))
	}
	for _, with := range []func(x *api.Entry){
		func(x *api.Entry) { x.Base = 1 }, func(x *api.Entry) { x.Quote = 1 }, func(x *api.Entry) { x.Qty = 1 }, func(x *api.Entry) { x.Price = 1 }, func(x *api.Entry) { x.Side = 1 }, func(x *api.Entry) { x.Side = 2 },
		func(x *api.Entry) { x.Base, x.Quote, x.Qty, x.Price = 0, 1, 1, 1 },
	} {
		out = append(out, changed(pull(2, 1), with), changed(api.Entry{Side: 3}, with))
	}
	return append(out, api.Entry{})
}

// logs are logs of some few entries.
func logs() [][]api.Entry {
	return [][]api.Entry{
		nil, {}, {buy(0, 0)}, {pull(most, 127)}, {sell(2, 1)}, {buy(2, 1), sell(2, 2)}, {buy(2, 5), sell(3, 0)}, {pull(2, 5), pull(3, 5)},
		{buy(0, 0), buy(0, 1), pull(0, 127), sell(1, 0), pull(2, 1)}, {sell(0, 127), buy(most-1, 0), sell(most, 0), pull(most, 1)},
	}
}

// noLogs are entries that are no log.
func noLogs() [][]api.Entry {
	out := [][]api.Entry{
		{buy(2, 1), sell(2, 1)}, {buy(2, 1), buy(2, 1)}, {buy(2, 2), sell(2, 1)}, {buy(3, 0), sell(2, 1)}, {pull(3, 1), pull(2, 1)}, {pull(most, 0), pull(0, 1)},
		{buy(0, 0), buy(0, 1), pull(0, 1), sell(1, 0)}, {buy(0, 0), buy(0, 1), sell(1, 0), pull(0, 2)}, {buy(1, 0), buy(0, 1), pull(2, 0)},
	}
	for _, x := range wrongEntries() {
		out = append(out, []api.Entry{x}, []api.Entry{x, buy(most, 127)}, []api.Entry{buy(0, 0), x}, []api.Entry{buy(0, 0), x, buy(most, 127)})
	}
	return out
}

// P20.1

func TestMay(t *testing.T) {
	for _, x := range rightEntries() {
		if !May(x) {
			t.Error("may be", x)
		}
	}
	for _, x := range wrongEntries() {
		if May(x) {
			t.Error("may not be", x)
		}
	}
	for n := -300; n <= 300; n++ {
		for _, x := range kinds(2, 1) {
			for _, with := range []func(x *api.Entry){func(x *api.Entry) { x.Line = n }, func(x *api.Entry) { x.Label = n }, func(x *api.Entry) { x.Who = n }} {
				if May(changed(x, with)) != (n >= 0 && n <= 127) {
					t.Error("number", n, x)
				}
			}
			slot := changed(x, func(x *api.Entry) { x.Slot = n })
			if May(slot) != (n == 0 || x.Side == 3 && n > 0 && n <= 127) {
				t.Error("slot", slot)
			}
		}
	}
}

func TestRight(t *testing.T) {
	for _, l := range logs() {
		if !Right(l) {
			t.Error("is a log", l)
		}
	}
	for _, l := range noLogs() {
		if Right(l) {
			t.Error("is no log", l)
		}
	}
	for _, x := range rightEntries() {
		if !Right([]api.Entry{x}) {
			t.Error("one alone", x)
		}
	}
	// Each of two rounds and two lines behind each other one: the round counts ahead of the line.
	for _, a := range []api.Entry{buy(1, 1), sell(1, 2), pull(2, 1), buy(2, 2)} {
		for _, b := range []api.Entry{sell(1, 1), pull(1, 2), buy(2, 1), sell(2, 2)} {
			if Right([]api.Entry{a, b}) != (10*int(b.Round)+b.Line > 10*int(a.Round)+a.Line) {
				t.Error(a, b)
			}
		}
	}
}

func TestLongLog(t *testing.T) {
	var l []api.Entry
	for i := range 5000 {
		l = append(l, kinds(uint64(i/128), i%128)[i%3])
	}
	if !Right(l) {
		t.Error("is a log")
	}
	l[4999].Line = l[4998].Line
	if Right(l) {
		t.Error("is no log")
	}
}

func TestAdd(t *testing.T) {
	for _, l := range logs() {
		was := slices.Clone(l)
		for _, x := range append(rightEntries(), kinds(most, 126)...) {
			want := append(slices.Clone(l), x)
			if !Right(want) {
				refused(t, l, math.MaxInt, x, api.ErrArg)
				// Ahead of a log that is full.
				refused(t, l, 0, x, api.ErrArg)
				continue
			}
			for _, n := range []int{len(l) + 1, len(l) + 2, 48, math.MaxInt} {
				if got, e := Add(l, n, x); !slices.Equal(got, want) || e != api.OK {
					t.Error(l, n, x, got, e)
				}
			}
			for _, n := range []int{len(l), len(l) - 1, 0, -1, math.MinInt} {
				refused(t, l, n, x, api.ErrFull)
			}
		}
		if !slices.Equal(l, was) {
			t.Error("changed", was, l)
		}
	}
}

// refused holds what Add answers against an error, with nothing beside it.
func refused(t *testing.T, l []api.Entry, n int, x api.Entry, want api.Errno) {
	t.Helper()
	if got, e := Add(l, n, x); len(got) != 0 || e != want {
		t.Error(l, n, x, "is", got, e, "and not", want)
	}
}

func TestWrongAdd(t *testing.T) {
	for _, l := range logs() {
		for _, n := range []int{math.MaxInt, len(l), 0, -1} {
			for _, x := range wrongEntries() {
				refused(t, l, n, x, api.ErrArg)
				x.Round = most
				if !May(x) {
					refused(t, l, n, x, api.ErrArg)
				}
			}
			if len(l) == 0 {
				continue
			}
			last := l[len(l)-1]
			for _, x := range kinds(last.Round, last.Line) {
				refused(t, l, n, x, api.ErrArg)
			}
			for _, x := range append(kinds(last.Round, last.Line-1), kinds(last.Round-1, 127)...) {
				refused(t, l, n, x, api.ErrArg)
			}
		}
	}
	for _, l := range noLogs() {
		for _, n := range []int{math.MaxInt, len(l), 0, -1} {
			refused(t, l, n, changed(pull(most, 127), func(x *api.Entry) { x.Who = 1 }), api.ErrArg)
		}
	}
}

func TestBehindTheLast(t *testing.T) {
	l := []api.Entry{buy(2, 5)}
	for _, x := range []struct {
		round uint64
		line  int
		e     api.Errno
	}{{2, 5, api.ErrArg}, {2, 4, api.ErrArg}, {2, 0, api.ErrArg}, {1, 6, api.ErrArg}, {0, 127, api.ErrArg}, {2, 6, api.OK}, {2, 127, api.OK}, {3, 0, api.OK}, {3, 5, api.OK}, {3, 4, api.OK}, {most, 0, api.OK}} {
		for _, y := range kinds(x.round, x.line) {
			if got, e := Add(l, 48, y); e != x.e || e == api.OK && !slices.Equal(got, []api.Entry{buy(2, 5), y}) {
				t.Error(y, got, e)
			}
		}
	}
}

// P20.2

func TestExample(t *testing.T) {
	b := Bytes(api.Entry{Round: 7, Line: 2, Side: 1, Base: 0, Quote: 1, Qty: 3, Price: 5})
	if !bytes.Equal(b, []byte{0, 0, 0, 0, 0, 0, 0, 7, 2, 0, 0, 1, 0, 1, 0, 0, 0, 0, 0, 0, 0, 3, 0, 0, 0, 0, 0, 0, 0, 5, 0}) {
		t.Error(b)
	}
}

func TestBytes(t *testing.T) {
	for _, x := range []struct {
		of   api.Entry
		want []byte
	}{
		{
			api.Entry{Round: 0x0102030405060708, Line: 9, Label: 10, Who: 11, Side: 2, Base: 3, Quote: 2, Qty: 0x1112, Price: 0x21222324},
			[]byte{1, 2, 3, 4, 5, 6, 7, 8, 9, 10, 11, 2, 3, 2, 0, 0, 0, 0, 0, 0, 0x11, 0x12, 0, 0, 0, 0, 0x21, 0x22, 0x23, 0x24, 0},
		},
		{
			api.Entry{Round: most, Line: 127, Label: 126, Who: 125, Side: 1, Base: 0, Quote: 3, Qty: most, Price: 1},
			[]byte{64, 0, 0, 0, 0, 0, 0, 0, 127, 126, 125, 1, 0, 3, 64, 0, 0, 0, 0, 0, 0, 0, 0, 0, 0, 0, 0, 0, 0, 1, 0},
		},
		{
			api.Entry{Round: 256, Line: 1, Label: 2, Who: 3, Side: 3, Slot: 127},
			[]byte{0, 0, 0, 0, 0, 0, 1, 0, 1, 2, 3, 3, 0, 0, 0, 0, 0, 0, 0, 0, 0, 0, 0, 0, 0, 0, 0, 0, 0, 0, 127},
		},
	} {
		if b := Bytes(x.of); !bytes.Equal(b, x.want) {
			t.Error(x.of, b)
		}
		if got, e := Read(x.want); got != x.of || e != api.OK {
			t.Error(x.want, got, e)
		}
	}
	for _, x := range wrongEntries() {
		if b := Bytes(x); len(b) != 0 {
			t.Error("may not be", x, b)
		}
	}
}

func TestRead(t *testing.T) {
	for _, x := range rightEntries() {
		b := Bytes(x)
		if got, e := Read(b); len(b) != 31 || got != x || e != api.OK {
			t.Error(x, b, got, e)
		}
	}
}

// wrongRead holds what Read answers against an error, with nothing beside it.
func wrongRead(t *testing.T, b []byte, want api.Errno) {
	t.Helper()
	if got, e := Read(b); got != (api.Entry{}) || e != want {
		t.Error(b, "is", got, e, "and not", want)
	}
}

func TestShortAndLong(t *testing.T) {
	for _, b := range [][]byte{Bytes(buy(7, 2)), Bytes(sell(7, 2)), Bytes(pull(7, 2)), make([]byte, 31), bytes.Repeat([]byte{255}, 31)} {
		for n := range 31 {
			wrongRead(t, b[:n:n], api.ErrShort)
			// What lies behind the end is not read.
			wrongRead(t, b[:n], api.ErrShort)
		}
		for _, n := range []int{1, 2, 31, 1000} {
			wrongRead(t, append(bytes.Clone(b), make([]byte, n)...), api.ErrLong)
		}
	}
	wrongRead(t, nil, api.ErrShort)
	wrongRead(t, []byte{}, api.ErrShort)
}

func TestWrongRead(t *testing.T) {
	wrongRead(t, make([]byte, 31), api.ErrForm)
	wrongRead(t, bytes.Repeat([]byte{255}, 31), api.ErrForm)
	b := Bytes(buy(7, 2))
	for _, x := range []struct {
		at int
		to byte
	}{
		{0, 65}, {0, 128}, {8, 128}, {9, 128}, {10, 255}, {11, 0}, {11, 3}, {11, 4}, {12, 1}, {12, 4}, {13, 0}, {13, 255}, {14, 64}, {21, 0}, {22, 64}, {29, 0}, {30, 1}, {30, 128},
	} {
		now := bytes.Clone(b)
		now[x.at] = x.to
		wrongRead(t, now, api.ErrForm)
	}
	b = Bytes(pull(7, 2))
	for _, at := range []int{12, 13, 14, 21, 22, 29} {
		now := bytes.Clone(b)
		now[at] = 1
		wrongRead(t, now, api.ErrForm)
	}
	b[30] = 128
	wrongRead(t, b, api.ErrForm)
}

// P20.3

// Whatever is read has just the bytes that it was read from; so nothing else is read.
func TestNothingElseIsRead(t *testing.T) {
	read := 0
	for _, x := range append(kinds(0, 0), kinds(most-1, 127)...) {
		b := Bytes(x)
		for at := range b {
			for to := range 256 {
				now := bytes.Clone(b)
				now[at] = byte(to)
				got, e := Read(now)
				if e != api.OK {
					wrongRead(t, now, api.ErrForm)
					continue
				}
				if read++; !May(got) || !bytes.Equal(Bytes(got), now) {
					t.Fatal(now, got)
				}
			}
		}
	}
	if read < 1000 {
		t.Error("few are read", read)
	}
}

func TestUnlikeEntriesUnlikeBytes(t *testing.T) {
	known := map[string]api.Entry{}
	for _, x := range rightEntries() {
		b := string(Bytes(x))
		if y, ok := known[b]; ok && x != y {
			t.Error("one row of bytes for", x, y)
		}
		known[b] = x
	}
}

func TestWhatWasAddedStays(t *testing.T) {
	l := []api.Entry(nil)
	all := []api.Entry{}
	for i := range 48 {
		x := kinds(uint64(i/3), i%3)[i%3]
		now, e := Add(l, 48, x)
		if e != api.OK {
			t.Fatal(i, e)
		}
		all = append(all, x)
		if l = now; !Right(l) || !slices.Equal(l, all) {
			t.Fatal(i, l)
		}
		refused(t, l, 48, x, api.ErrArg)
	}
	refused(t, l, 48, buy(most, 0), api.ErrFull)
}

// The rules of lists and memory

func TestNewMemory(t *testing.T) {
	room := []api.Entry{buy(1, 1), pull(most, 9), sell(3, 3)}
	l := room[:1]
	one, _ := Add(l, 48, buy(2, 1))
	two, _ := Add(l, 48, sell(2, 2))
	if !slices.Equal(one, []api.Entry{buy(1, 1), buy(2, 1)}) || !slices.Equal(two, []api.Entry{buy(1, 1), sell(2, 2)}) {
		t.Error("what lies behind is read, or shared", one, two)
	}
	one[0], one[1] = pull(0, 0), pull(0, 0)
	_ = append(one, pull(0, 0))
	if !slices.Equal(room, []api.Entry{buy(1, 1), pull(most, 9), sell(3, 3)}) || two[0] != buy(1, 1) {
		t.Error("memory in common", room, two)
	}
	clear(room)
	if two[0] != buy(1, 1) {
		t.Error("what was handed in is kept", two)
	}
	b := Bytes(buy(7, 2))
	x, _ := Read(b)
	clear(b)
	if x != buy(7, 2) || bytes.Equal(b, Bytes(x)) {
		t.Error("bytes have memory in common", x)
	}
}

func TestNotChanged(t *testing.T) {
	for _, x := range kinds(7, 2) {
		b := Bytes(x)
		was := bytes.Clone(b)
		if _, e := Read(b); e != api.OK || !bytes.Equal(b, was) {
			t.Error("changed", b)
		}
	}
}
