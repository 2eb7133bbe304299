package thing

import (
	"math"
	"slices"
	"strings"
	"testing"

	"rialto/api"
)

// at is a room.
func at(place, slot int) api.Ref { return api.Ref{Label: place, Slot: slot} }

// The items of the tests, with numbers written out, by who holds them.
func inHandOf(s string, who int) api.Item { return api.Item{Used: true, Name: s, Kind: 1, Who: who} }

func inRoomAt(s string, place, slot int) api.Item {
	return api.Item{Used: true, Name: s, Kind: 2, At: at(place, slot)}
}

func inTradeOf(s string, trade int) api.Item {
	return api.Item{Used: true, Name: s, Kind: 3, Who: trade}
}

// good are names; bad are texts that are none.
func good() []string { return []string{"a", "z", "lamp", "a0", "z9", "rialto2", "abcdefghijkl"} }

func bad() []string {
	return []string{"", "2lamp", "A", "Lamp", "laMp", "a b", " a", "a ", "a-b", "abcdefghijklm", "\x00", "a\x00", "`", "{", "a/", "a:", "é", "aé", strings.Repeat("a", 70000)}
}

// numbers are such as there may be; others may not be.
func numbers() []int { return []int{0, 1, 2, 3, 8, 64, 126, 127} }

func others() []int {
	return []int{math.MinInt, math.MinInt32, -256, -128, -127, -1, 128, 129, 255, 256, 1 << 32, math.MaxInt}
}

// noRefs are what tells no room.
func noRefs() []api.Ref {
	var out []api.Ref
	for _, n := range others() {
		out = append(out, at(n, 0), at(0, n), at(n, n), at(127, n), at(n, 127))
	}
	return out
}

// wrongItems are slots that may not be.
func wrongItems() []api.Item {
	out := []api.Item{
		{Name: "lamp"}, {Name: " "}, {Kind: 1}, {Kind: 2}, {Kind: 3}, {Kind: -1}, {Who: 1}, {Who: -1}, {At: at(1, 0)}, {At: at(0, 1)}, {At: at(0, -1)},
		{Name: "lamp", Kind: 1}, {Name: "lamp", Kind: 2, At: at(1, 1)},
		// Of two kinds at once.
		{Used: true, Name: "lamp", Kind: 1, At: at(0, 1)}, {Used: true, Name: "lamp", Kind: 1, At: at(1, 0)}, {Used: true, Name: "lamp", Kind: 1, Who: 5, At: at(5, 5)},
		{Used: true, Name: "lamp", Kind: 2, Who: 1}, {Used: true, Name: "lamp", Kind: 2, Who: 127, At: at(1, 1)}, {Used: true, Name: "lamp", Kind: 2, Who: -1},
		{Used: true, Name: "lamp", Kind: 3, At: at(0, 1)}, {Used: true, Name: "lamp", Kind: 3, At: at(1, 0)}, {Used: true, Name: "lamp", Kind: 3, Who: 5, At: at(5, 5)},
		{Used: true},
	}
	for _, kind := range []int{math.MinInt, -3, -2, -1, 0, 4, 5, 257, 258, 259, 1<<32 + 1, math.MaxInt} {
		out = append(out, api.Item{Used: true, Name: "lamp", Kind: kind}, api.Item{Used: true, Name: "lamp", Kind: kind, Who: 1}, api.Item{Used: true, Name: "lamp", Kind: kind, At: at(1, 1)})
	}
	for _, n := range others() {
		out = append(out, inHandOf("lamp", n), inTradeOf("lamp", n))
	}
	for _, ref := range noRefs() {
		out = append(out, inRoomAt("lamp", ref.Label, ref.Slot), api.Item{Used: true, Name: "lamp", Kind: 1, At: ref}, api.Item{Used: true, Name: "lamp", Kind: 3, At: ref})
	}
	for _, s := range bad() {
		out = append(out, inHandOf(s, 0), inRoomAt(s, 0, 0), inTradeOf(s, 0))
	}
	return out
}

// wrongLists are lists that may not be, with free slots, and with items that may be.
func wrongLists() [][]api.Item {
	var out [][]api.Item
	for _, x := range wrongItems() {
		out = append(out, []api.Item{x, {}}, []api.Item{{}, inHandOf("lamp", 0), inRoomAt("lamp", 0, 0), inTradeOf("lamp", 0), x})
	}
	return out
}

// lists are lists of up to three slots, with some few items, that may be.
func lists() [][]api.Item {
	some := func(s string) []api.Item {
		return []api.Item{{}, inHandOf(s, 0), inHandOf(s, 1), inRoomAt(s, 0, 0), inRoomAt(s, 0, 1), inRoomAt(s, 1, 0), inTradeOf(s, 0), inTradeOf(s, 1)}
	}
	out := [][]api.Item{nil, {}}
	for _, a := range some("lamp") {
		out = append(out, []api.Item{a})
		for _, b := range some("rose") {
			out = append(out, []api.Item{a, b})
			// Two items may have one name.
			for _, c := range some("lamp") {
				out = append(out, []api.Item{a, b, c})
			}
		}
	}
	return out
}

// refs are the rooms that are asked of.
func refs() []api.Ref { return []api.Ref{at(0, 0), at(0, 1), at(1, 0), at(1, 1), at(127, 127)} }

// with is a list in which another item stands at a slot.
func with(l []api.Item, i int, x api.Item) []api.Item {
	out := slices.Clone(l)
	out[i] = x
	return out
}

// told holds an answer against what it must be: a list, and an error.
func told(t *testing.T, what string, l []api.Item, args []int, got []api.Item, e api.Errno, want []api.Item, f api.Errno) {
	t.Helper()
	if e != f || !slices.Equal(got, want) {
		t.Error(what, l, args, "is", got, e, "and not", want, f)
	}
}

// P16.1

func TestRight(t *testing.T) {
	for _, l := range append(lists(), make([]api.Item, 5000)) {
		if !Right(l) {
			t.Error("may be", l)
		}
	}
	for _, s := range good() {
		for _, n := range numbers() {
			for _, m := range numbers() {
				l := []api.Item{{}, inHandOf(s, n), inRoomAt(s, n, m), inTradeOf(s, n)}
				if !Right(l) {
					t.Error("may be", l)
				}
			}
		}
	}
	for _, x := range wrongItems() {
		if Right([]api.Item{x}) || Right([]api.Item{{}, x}) || Right([]api.Item{x, inHandOf("a", 0)}) || Right([]api.Item{{}, inHandOf("a", 0), x, {}}) {
			t.Error("may not be", x.Used, len(x.Name), x.Kind, x.Who, x.At)
		}
	}
}

func TestExample(t *testing.T) {
	l, i, e := Make([]api.Item{{}}, "lamp", 0)
	if !slices.Equal(l, []api.Item{inHandOf("lamp", 0)}) || i != 0 || e != api.OK {
		t.Error("Make", l, i, e)
	}
	l, e = Drop(l, 0, 0, at(0, 1))
	if !slices.Equal(l, []api.Item{inRoomAt("lamp", 0, 1)}) || e != api.OK || !slices.Equal(Lying(l, at(0, 1)), []int{0}) {
		t.Error("Drop", l, e)
	}
	l, e = Take(l, 0, 2, at(0, 1))
	if !slices.Equal(l, []api.Item{inHandOf("lamp", 2)}) || e != api.OK || !slices.Equal(Held(l, 2), []int{0}) {
		t.Error("Take", l, e)
	}
}

func TestMake(t *testing.T) {
	for _, l := range lists() {
		was := slices.Clone(l)
		free := slices.Index(l, api.Item{})
		for _, s := range good() {
			for _, who := range numbers() {
				got, i, e := Make(l, s, who)
				if free < 0 {
					if len(got) != 0 || i != 0 || e != api.ErrFull {
						t.Error("full", l, got, i, e)
					}
					continue
				}
				if !slices.Equal(got, with(was, free, inHandOf(s, who))) || i != free || e != api.OK {
					t.Error(l, s, who, got, i, e)
				}
			}
		}
		for _, s := range bad() {
			// Ahead of a list that is full.
			if got, i, e := Make(l, s, 127); len(got) != 0 || i != 0 || e != api.ErrForm {
				t.Error("no name", l, len(s), got, i, e)
			}
		}
		for _, who := range others() {
			// Ahead of a text that is no name, and of a list that is full.
			for _, s := range []string{"lamp", "", "A"} {
				if got, i, e := Make(l, s, who); len(got) != 0 || i != 0 || e != api.ErrArg {
					t.Error("no account", l, who, got, i, e)
				}
			}
		}
		if !slices.Equal(l, was) {
			t.Error("changed", was, l)
		}
	}
	for _, l := range wrongLists() {
		for _, s := range []string{"lamp", ""} {
			if got, i, e := Make(l, s, 0); len(got) != 0 || i != 0 || e != api.ErrArg {
				t.Error("may not be", l[len(l)-1].Kind, got, i, e)
			}
		}
	}
}

func TestScrap(t *testing.T) {
	for _, l := range lists() {
		was := slices.Clone(l)
		for _, i := range []int{math.MinInt, -1, 0, 1, 2, 3, 4, math.MaxInt} {
			for _, who := range []int{0, 1, 2, 127} {
				got, e := Scrap(l, i, who)
				if i < 0 || i >= len(l) || was[i] != inHandOf(was[i].Name, who) {
					told(t, "Scrap", l, []int{i, who}, got, e, nil, api.ErrNone)
					continue
				}
				told(t, "Scrap", l, []int{i, who}, got, e, with(was, i, api.Item{}), api.OK)
			}
		}
		if !slices.Equal(l, was) {
			t.Error("changed", was, l)
		}
	}
}

// P16.2

// A deed brings the item at a slot from a holder to another one; each has two numbers, of which the first one alone counts, if it is no room.
type deed struct {
	what string
	do   func(l []api.Item, i int, from, to api.Ref) ([]api.Item, api.Errno)
	// from and to are the item in what holds it ahead, and behind.
	from, to func(s string, holder api.Ref) api.Item
	// rooms tells of which one both numbers count.
	rooms [2]bool
}

func deeds() []deed {
	hand := func(s string, holder api.Ref) api.Item { return inHandOf(s, holder.Label) }
	floor := func(s string, holder api.Ref) api.Item { return inRoomAt(s, holder.Label, holder.Slot) }
	trade := func(s string, holder api.Ref) api.Item { return inTradeOf(s, holder.Label) }
	return []deed{
		{"Drop", func(l []api.Item, i int, from, to api.Ref) ([]api.Item, api.Errno) { return Drop(l, i, from.Label, to) }, hand, floor, [2]bool{false, true}},
		{"Take", func(l []api.Item, i int, from, to api.Ref) ([]api.Item, api.Errno) { return Take(l, i, to.Label, from) }, floor, hand, [2]bool{true, false}},
		{"Pass", func(l []api.Item, i int, from, to api.Ref) ([]api.Item, api.Errno) {
			return Pass(l, i, from.Label, to.Label)
		}, hand, hand, [2]bool{}},
		{"Hold", func(l []api.Item, i int, from, to api.Ref) ([]api.Item, api.Errno) {
			return Hold(l, i, from.Label, to.Label)
		}, hand, trade, [2]bool{}},
	}
}

func TestDeeds(t *testing.T) {
	for _, x := range deeds() {
		for _, l := range lists() {
			was := slices.Clone(l)
			for i := -1; i <= len(l)+1; i++ {
				for _, from := range refs() {
					for _, to := range refs() {
						got, e := x.do(l, i, from, to)
						args := []int{i, from.Label, from.Slot, to.Label, to.Slot}
						if i < 0 || i >= len(l) || was[i] != x.from(was[i].Name, from) {
							told(t, x.what, l, args, got, e, nil, api.ErrNone)
							continue
						}
						told(t, x.what, l, args, got, e, with(was, i, x.to(was[i].Name, to)), api.OK)
					}
				}
			}
			for _, i := range []int{math.MinInt, -128, 127, math.MaxInt} {
				got, e := x.do(l, i, at(0, 0), at(0, 0))
				told(t, x.what, l, []int{i}, got, e, nil, api.ErrNone)
			}
			if !slices.Equal(l, was) {
				t.Error(x.what, "changed", was, l)
			}
		}
	}
}

func TestDeedsWritten(t *testing.T) {
	l := []api.Item{inHandOf("lamp", 4), {}, inRoomAt("rose", 4, 5), inTradeOf("key", 4), inHandOf("map", 5)}
	room, e := Drop(l, 0, 4, at(5, 4))
	told(t, "Drop", l, nil, room, e, with(l, 0, inRoomAt("lamp", 5, 4)), api.OK)
	hand, e := Take(l, 2, 127, at(4, 5))
	told(t, "Take", l, nil, hand, e, with(l, 2, inHandOf("rose", 127)), api.OK)
	other, e := Pass(l, 4, 5, 4)
	told(t, "Pass", l, nil, other, e, with(l, 4, inHandOf("map", 4)), api.OK)
	same, e := Pass(l, 4, 5, 5)
	told(t, "Pass, to themselves", l, nil, same, e, l, api.OK)
	trade, e := Hold(l, 0, 4, 11)
	told(t, "Hold", l, nil, trade, e, with(l, 0, inTradeOf("lamp", 11)), api.OK)
	free, e := Free(l, 4, 0)
	told(t, "Free", l, nil, free, e, with(l, 3, inHandOf("key", 0)), api.OK)
	for _, none := range []func() ([]api.Item, api.Errno){
		func() ([]api.Item, api.Errno) { return Drop(l, 0, 5, at(5, 4)) },
		func() ([]api.Item, api.Errno) { return Drop(l, 1, 0, at(0, 0)) },
		func() ([]api.Item, api.Errno) { return Drop(l, 2, 4, at(4, 5)) },
		func() ([]api.Item, api.Errno) { return Drop(l, 3, 4, at(4, 5)) },
		func() ([]api.Item, api.Errno) { return Drop(l, 5, 4, at(4, 5)) },
		func() ([]api.Item, api.Errno) { return Take(l, 0, 4, at(4, 0)) },
		func() ([]api.Item, api.Errno) { return Take(l, 1, 0, at(0, 0)) },
		func() ([]api.Item, api.Errno) { return Take(l, 2, 4, at(5, 4)) },
		func() ([]api.Item, api.Errno) { return Pass(l, 2, 4, 5) },
		func() ([]api.Item, api.Errno) { return Pass(l, 3, 4, 5) },
		func() ([]api.Item, api.Errno) { return Hold(l, 3, 4, 4) },
		func() ([]api.Item, api.Errno) { return Hold(l, 4, 4, 4) },
		func() ([]api.Item, api.Errno) { return Scrap(l, 2, 4) },
		func() ([]api.Item, api.Errno) { return Scrap(l, 3, 4) },
		func() ([]api.Item, api.Errno) { return Scrap(l, 1, 0) },
	} {
		got, e := none()
		told(t, "none", l, nil, got, e, nil, api.ErrNone)
	}
}

// Each number counts, up to both of its ends.
func TestDeedsAtEdges(t *testing.T) {
	for _, x := range deeds() {
		for _, n := range numbers() {
			for _, m := range numbers() {
				from, to := at(n, m), at(m, n)
				l := []api.Item{{}, x.from("lamp", from)}
				got, e := x.do(l, 1, from, to)
				told(t, x.what, l, []int{n, m}, got, e, with(l, 1, x.to("lamp", to)), api.OK)
			}
		}
	}
}

func TestWrongDeeds(t *testing.T) {
	full := []api.Item{inHandOf("lamp", 0), inRoomAt("rose", 0, 0)}
	for _, x := range deeds() {
		for i, l := range [][]api.Item{full, append(full, api.Item{}), nil, {{}}} {
			refs := noRefs()
			for _, n := range others() {
				refs = append(refs, at(n, 0))
			}
			for _, ref := range refs {
				// The second number of what is no room is not handed in.
				for side, room := range x.rooms {
					if !room && ref.Label >= 0 && ref.Label <= 127 {
						continue
					}
					ends := [2]api.Ref{}
					ends[side] = ref
					for slot := -1; slot < 3; slot++ {
						got, e := x.do(l, slot, ends[0], ends[1])
						told(t, x.what, l, []int{i, slot, side, ref.Label, ref.Slot}, got, e, nil, api.ErrArg)
					}
				}
			}
		}
		for _, l := range wrongLists() {
			for i := -1; i < len(l)+1; i++ {
				got, e := x.do(l, i, at(0, 0), at(0, 0))
				if len(got) != 0 || e != api.ErrArg {
					t.Error(x.what, "may not be", l[len(l)-1].Kind, i, got, e)
				}
			}
		}
	}
}

func TestWrongScrap(t *testing.T) {
	for _, l := range [][]api.Item{nil, {{}}, {inHandOf("lamp", 0)}, {inRoomAt("lamp", 0, 0), inHandOf("lamp", 0)}} {
		for _, who := range others() {
			for i := -1; i < 3; i++ {
				got, e := Scrap(l, i, who)
				told(t, "Scrap", l, []int{i, who}, got, e, nil, api.ErrArg)
			}
		}
	}
	for _, l := range wrongLists() {
		for i := -1; i < len(l)+1; i++ {
			if got, e := Scrap(l, i, 0); len(got) != 0 || e != api.ErrArg {
				t.Error("may not be", l[len(l)-1].Kind, i, got, e)
			}
		}
	}
}

func TestFree(t *testing.T) {
	for _, l := range lists() {
		was := slices.Clone(l)
		for _, trade := range []int{0, 1, 2, 127} {
			for _, to := range []int{0, 1, 127} {
				want := slices.Clone(was)
				for i, x := range want {
					if x == inTradeOf(x.Name, trade) {
						want[i] = inHandOf(x.Name, to)
					}
				}
				got, e := Free(l, trade, to)
				told(t, "Free", l, []int{trade, to}, got, e, want, api.OK)
			}
		}
		for _, n := range others() {
			for _, args := range [][2]int{{n, 0}, {0, n}, {n, n}, {127, n}, {n, 127}} {
				got, e := Free(l, args[0], args[1])
				told(t, "Free", l, args[:], got, e, nil, api.ErrArg)
			}
		}
		if !slices.Equal(l, was) {
			t.Error("changed", was, l)
		}
	}
	for _, l := range wrongLists() {
		for trade := range 3 {
			if got, e := Free(l, trade, 0); len(got) != 0 || e != api.ErrArg {
				t.Error("may not be", l[len(l)-1].Kind, got, e)
			}
		}
	}
	for _, n := range numbers() {
		l := []api.Item{inTradeOf("lamp", n), inHandOf("rose", n), inTradeOf("rose", n), {}, inTradeOf("rose", n^1)}
		got, e := Free(l, n, 127-n)
		want := []api.Item{inHandOf("lamp", 127-n), inHandOf("rose", n), inHandOf("rose", 127-n), {}, inTradeOf("rose", n^1)}
		told(t, "Free", l, []int{n}, got, e, want, api.OK)
	}
}

// P16.3

// slots works out anew which slots of a list are as they are asked for.
func slots(l []api.Item, kind, who int, ref api.Ref) []int {
	var out []int
	for i, x := range l {
		if x.Used && x.Kind == kind && x.Who == who && x.At.Label == ref.Label && x.At.Slot == ref.Slot {
			out = append(out, i)
		}
	}
	return out
}

func TestHeldAndLying(t *testing.T) {
	for _, l := range append(lists(), wrongLists()...) {
		was := slices.Clone(l)
		for _, x := range append(slices.Clone(l), inHandOf("a", 0), inHandOf("a", 1), inHandOf("a", 127), inRoomAt("a", 1, 1), inRoomAt("a", 1, 0), inRoomAt("a", 0, 1)) {
			if got := Held(l, x.Who); !slices.Equal(got, slots(l, 1, x.Who, api.Ref{})) {
				t.Error("Held", x.Who, got)
			}
			if got := Lying(l, x.At); !slices.Equal(got, slots(l, 2, 0, x.At)) {
				t.Error("Lying", x.At, got)
			}
		}
		if !slices.Equal(l, was) {
			t.Error("changed", was, l)
		}
	}
}

// Of any list: it counts who holds an item, not whether there may be one of that name, or that number.
func TestHeldAndLyingWritten(t *testing.T) {
	l := []api.Item{
		inHandOf("lamp", 3), inHandOf("", -9), inRoomAt("rose", 3, 0), inTradeOf("key", 3), inHandOf("A b", 3),
		{Used: true, Name: "lamp", Kind: 1, Who: 3, At: at(0, 1)}, {Used: true, Name: "lamp", Kind: 1, Who: 3, At: at(1, 0)}, {Name: "lamp", Kind: 1, Who: 3}, {Used: true, Name: "lamp", Kind: 0, Who: 3},
		inRoomAt("", 3, 0), {Used: true, Name: "rose", Kind: 2, Who: 1, At: at(3, 0)}, {Name: "rose", Kind: 2, At: at(3, 0)}, inRoomAt("key", 500, -1), inRoomAt("key", 0, 3),
		{Used: true, Name: "rose", Kind: 3, At: at(3, 0)}, {Used: true, Name: "rose", Kind: 4, At: at(3, 0)}, inHandOf("map", 3), {}, {Kind: 1}, {Kind: 2},
	}
	for _, x := range []struct {
		who  int
		want []int
	}{{3, []int{0, 4, 16}}, {-9, []int{1}}, {0, nil}, {1, nil}, {math.MinInt, nil}, {math.MaxInt, nil}} {
		if got := Held(l, x.who); !slices.Equal(got, x.want) {
			t.Error("Held", x.who, got)
		}
	}
	for _, x := range []struct {
		ref  api.Ref
		want []int
	}{{at(3, 0), []int{2, 9}}, {at(500, -1), []int{12}}, {at(0, 3), []int{13}}, {at(0, 0), nil}, {at(0, 1), nil}, {at(-1, 500), nil}, {at(math.MinInt, math.MaxInt), nil}} {
		if got := Lying(l, x.ref); !slices.Equal(got, x.want) {
			t.Error("Lying", x.ref, got)
		}
	}
	if len(Held(nil, 0)) != 0 || len(Lying(nil, at(0, 0))) != 0 || len(Held(make([]api.Item, 9), 0)) != 0 || len(Lying(make([]api.Item, 9), at(0, 0))) != 0 {
		t.Error("of no items")
	}
}

func TestKinds(t *testing.T) {
	if inHand != api.InHand || inRoom != api.InRoom || inTrade != api.InTrade {
		t.Error(inHand, inRoom, inTrade)
	}
}

func TestNewMemory(t *testing.T) {
	l := []api.Item{inHandOf("lamp", 0), inRoomAt("rose", 0, 1), {}, inTradeOf("key", 0)}
	was := slices.Clone(l)
	answers := func() [][]api.Item {
		made, _, _ := Make(l, "map", 1)
		scrapped, _ := Scrap(l, 0, 0)
		dropped, _ := Drop(l, 0, 0, at(1, 1))
		taken, _ := Take(l, 1, 5, at(0, 1))
		passed, _ := Pass(l, 0, 0, 0)
		held, _ := Hold(l, 0, 0, 7)
		free, _ := Free(l, 0, 1)
		none, _ := Free(l, 9, 1)
		return [][]api.Item{made, scrapped, dropped, taken, passed, held, free, none}
	}
	for i, got := range answers() {
		if len(got) != 4 {
			t.Fatal(i, got)
		}
		for k := range got {
			got[k] = inHandOf("spoilt", 9)
		}
		_ = append(got, inHandOf("spoilt", 9))
		if !slices.Equal(l, was) {
			t.Fatal("what was handed in has memory in common", i, l)
		}
	}
	for _, got := range [][]int{Held(l, 0), Lying(l, at(0, 1))} {
		got[0] = 7
	}
	if !slices.Equal(Held(l, 0), []int{0}) || !slices.Equal(Lying(l, at(0, 1)), []int{1}) {
		t.Error("slots have memory in common")
	}
	all := answers()
	clear(l)
	if !slices.Equal(all[0], with(was, 2, inHandOf("map", 1))) || !slices.Equal(all[6], with(was, 3, inHandOf("key", 1))) || !slices.Equal(all[7], was) {
		t.Error("what was handed in is kept", all)
	}
}

func TestBehindTheEnd(t *testing.T) {
	lamp, wrong := inHandOf("lamp", 0), inHandOf("LAMP", 0)
	l := []api.Item{lamp, lamp, {}, wrong, inTradeOf("key", 0)}
	if _, _, e := Make(l[:2], "map", 0); e != api.ErrFull {
		t.Error("a slot behind the end is free", e)
	}
	if !slices.Equal(Held(l[:2], 0), []int{0, 1}) || len(Held(l[:1], 0)) != 1 {
		t.Error("Held behind the end")
	}
	if _, e := Scrap(l[:1], 1, 0); e != api.ErrNone {
		t.Error("Scrap behind the end", e)
	}
	got, i, e := Make(l[:3], "map", 1)
	if !slices.Equal(got, []api.Item{lamp, lamp, inHandOf("map", 1)}) || i != 2 || e != api.OK {
		t.Error("what lies behind is read", got, i, e)
	}
	free, e := Free(l[:3], 0, 0)
	if !slices.Equal(free, l[:3]) || e != api.OK {
		t.Error("what lies behind is read", free, e)
	}
	for _, got := range [][]api.Item{got, free} {
		_ = append(got, lamp, lamp)
		if slices.Contains(got[:cap(got)], wrong) || l[3] != wrong || l[4] != inTradeOf("key", 0) {
			t.Error("what lies behind is written or handed out", l)
		}
	}
}

// P16.4

// step is a list that came of another one, and by what.
type step struct {
	what string
	now  []api.Item
	e    api.Errno
}

// stepsFrom does all that can be done with a list, by few numbers.
func stepsFrom(l []api.Item) []step {
	var out []step
	add := func(what string) func(now []api.Item, e api.Errno) {
		return func(now []api.Item, e api.Errno) { out = append(out, step{what, now, e}) }
	}
	for _, who := range []int{0, 127} {
		made, _, e := Make(l, "lamp", who)
		add("Make")(made, e)
		for i := range l {
			add("Scrap")(Scrap(l, i, who))
			for _, x := range []int{0, 127} {
				add("Drop")(Drop(l, i, who, at(x, 0)))
				add("Take")(Take(l, i, who, at(x, 0)))
				add("Pass")(Pass(l, i, who, x))
				add("Hold")(Hold(l, i, who, x))
				add("Free")(Free(l, x, who))
			}
		}
	}
	return out
}

// holders tells how many holders the slot has, of all that there are here.
func holders(l []api.Item, i int) int {
	n := 0
	for _, x := range []int{0, 127} {
		for _, slots := range [][]int{Held(l, x), Lying(l, at(x, 0)), slots(l, 3, x, api.Ref{})} {
			if slices.Contains(slots, i) {
				n++
			}
		}
	}
	return n
}

// used tells how many items there are.
func used(l []api.Item) int {
	n := 0
	for _, x := range l {
		if x.Used {
			n++
		}
	}
	return n
}

func TestWhatComesOfIt(t *testing.T) {
	const most = 3
	all := [][]api.Item{make([]api.Item, most)}
	known := map[[most]api.Item]int{[most]api.Item(all[0]): 1}
	for n := 0; n < len(all); n++ {
		was := all[n]
		for _, x := range stepsFrom(was) {
			if x.e != api.OK {
				continue
			}
			if !Right(x.now) || len(x.now) != most {
				t.Fatal(x.what, "may not be", x.now)
			}
			for i := range x.now {
				if n := holders(x.now, i); x.now[i].Used != (n == 1) || n > 1 {
					t.Fatal(x.what, "holders", x.now, i, n)
				}
			}
			if more := used(x.now) - used(was); more != map[string]int{"Make": 1, "Scrap": -1}[x.what] {
				t.Fatal(x.what, "lost or made", was, x.now)
			}
			if known[[most]api.Item(x.now)]++; known[[most]api.Item(x.now)] == 1 {
				all = append(all, x.now)
			}
		}
	}
	// Each slot is free, or its item has one of six holders: all of it is come to.
	if len(all) != 7*7*7 {
		t.Error(len(all))
	}
}

// Each item keeps its slot and its name, whoever holds it.
func TestNamesStay(t *testing.T) {
	l := []api.Item{inHandOf("lamp", 0), inRoomAt("rose", 0, 0), inTradeOf("key", 0), inHandOf("map", 127), {}}
	for range 3 {
		for _, x := range stepsFrom(l) {
			if x.e != api.OK || x.what == "Make" || x.what == "Scrap" {
				continue
			}
			for i := range l {
				if x.now[i].Name != l[i].Name || x.now[i].Used != l[i].Used {
					t.Fatal(x.what, l, x.now)
				}
			}
			l = x.now
		}
	}
}
