package room

import (
	"math"
	"slices"
	"strings"
	"testing"

	"rialto/api"
)

// at is a room.
func at(place, slot int) api.Ref { return api.Ref{Label: place, Slot: slot} }

// yard is a slot with a room.
func yard(s string) api.Room { return api.Room{Used: true, Name: s} }

// door is a slot with an exit.
func door(from, to api.Ref, dir int) api.Exit {
	return api.Exit{Used: true, From: from, To: to, Dir: dir}
}

// good are names; bad are texts that are none.
func good() []string { return []string{"a", "z", "plaza", "a0", "z9", "rialto2", "abcdefghijkl"} }

func bad() []string {
	return []string{"", "2rialto", "A", "Plaza", "plaZa", "a b", " a", "a ", "a-b", "a_", "abcdefghijklm", "\x00", "a\x00", "`", "{", "a/", "a:", "é", "aé", strings.Repeat("a", 70000)}
}

// numbers are such as a room may be told by; others may not be.
func numbers() []int { return []int{0, 1, 5, 8, 64, 126, 127} }

func others() []int {
	return []int{math.MinInt, math.MinInt32, -256, -128, -127, -1, 128, 129, 255, 256, 1 << 32, math.MaxInt}
}

// noDirs are numbers that are no directions.
func noDirs() []int { return []int{math.MinInt, -6, -1, 6, 7, 128, 256, 1 << 32, math.MaxInt} }

// noRefs are what tells no room.
func noRefs() []api.Ref {
	var out []api.Ref
	for _, n := range others() {
		out = append(out, at(n, 0), at(0, n), at(n, n), at(127, n), at(n, 127))
	}
	return out
}

// roomLists are lists of rooms that may be, with each pattern of free slots.
func roomLists() [][]api.Room {
	out := [][]api.Room{nil, {}}
	for size := 1; size <= 5; size++ {
		for set := range 1 << size {
			l := make([]api.Room, size)
			for i := range l {
				if set>>i&1 == 1 {
					l[i] = yard(good()[i])
				}
			}
			out = append(out, l)
		}
	}
	// Two rooms may have one name.
	return append(out, []api.Room{yard("a"), yard("a"), {}}, make([]api.Room, 5000))
}

// wrongRooms are slots that may not be.
func wrongRooms() []api.Room {
	out := []api.Room{{Name: "a"}, {Name: "plaza"}, {Name: " "}, {Name: "A"}}
	for _, s := range bad() {
		out = append(out, yard(s))
	}
	return out
}

// wrongExits are slots that may not be, whatever stands beside them.
func wrongExits() []api.Exit {
	out := []api.Exit{
		{From: at(1, 0)}, {From: at(0, 1)}, {To: at(1, 0)}, {To: at(0, 1)}, {Dir: 1}, {Dir: -1}, {Dir: 5},
		{From: at(-1, 0)}, {To: at(0, 128)}, {From: at(1, 2), To: at(3, 4), Dir: 5},
	}
	for _, ref := range noRefs() {
		out = append(out, door(ref, at(0, 0), 0), door(at(0, 0), ref, 0), door(ref, ref, 3))
	}
	for _, dir := range noDirs() {
		out = append(out, door(at(0, 0), at(0, 1), dir), door(at(127, 127), at(127, 127), dir))
	}
	return out
}

// wrongLists are lists of exits that may not be, with free slots.
func wrongLists() [][]api.Exit {
	var out [][]api.Exit
	for _, x := range wrongExits() {
		out = append(out, []api.Exit{x, {}}, []api.Exit{{}, x}, []api.Exit{door(at(5, 5), at(6, 6), 5), {}, x, {}})
	}
	one, twin := door(at(3, 4), at(5, 6), 2), door(at(3, 4), at(7, 8), 2)
	return append(out,
		[]api.Exit{one, one, {}}, []api.Exit{one, twin, {}}, []api.Exit{{}, one, {}, twin},
		[]api.Exit{door(at(0, 0), at(0, 0), 0), {}, door(at(0, 0), at(0, 1), 0)},
		[]api.Exit{one, door(at(4, 3), at(5, 6), 2), door(at(3, 4), at(5, 6), 3), twin, {}},
	)
}

// crowd is every exit that there may be from the rooms of some places, and a free slot.
func crowd(places int) []api.Exit {
	var out []api.Exit
	for place := range places {
		for slot := range 128 {
			for dir := range 6 {
				out = append(out, door(at(place, slot), at(slot, place), dir))
			}
		}
	}
	return append(out, api.Exit{})
}

// P15.1

func TestRooms(t *testing.T) {
	for _, l := range roomLists() {
		if !Rooms(l) {
			t.Error("may be", l)
		}
	}
	for _, s := range good() {
		if !Rooms([]api.Room{yard(s)}) || !Rooms([]api.Room{{}, yard(s)}) {
			t.Error("a name", s)
		}
	}
	for _, x := range wrongRooms() {
		for _, l := range [][]api.Room{{x}, {x, {}}, {{}, x}, {yard("a"), x, yard("b")}, {yard("a"), {}, x}} {
			if Rooms(l) {
				t.Error("may not be", x.Used, len(x.Name))
			}
		}
	}
}

func TestExits(t *testing.T) {
	for _, l := range [][]api.Exit{nil, {}, {{}}, {{}, {}}, make([]api.Exit, 5000), {door(at(0, 0), at(0, 0), 0)}} {
		if !Exits(l) {
			t.Error("may be", len(l))
		}
	}
	for _, n := range numbers() {
		for dir := range 6 {
			for _, x := range []api.Exit{door(at(n, 0), at(0, n), dir), door(at(0, n), at(n, 0), dir), door(at(n, n), at(n, n), dir)} {
				if !Exits([]api.Exit{x}) || !Exits([]api.Exit{{}, x, {}}) {
					t.Error("may be", x)
				}
			}
		}
	}
	for _, x := range wrongExits() {
		if Exits([]api.Exit{x}) {
			t.Error("may not be", x)
		}
	}
	for _, l := range wrongLists() {
		if Exits(l) {
			t.Error("may not be", l)
		}
	}
}

// Of two exits it counts where they begin: all of it, and nothing else.
func TestBeginAlike(t *testing.T) {
	x := door(at(3, 4), at(5, 6), 2)
	for _, y := range []api.Exit{
		door(at(2, 4), at(5, 6), 2), door(at(3, 5), at(5, 6), 2), door(at(3, 4), at(5, 6), 1), door(at(4, 3), at(5, 6), 2),
		door(at(3, 2), at(5, 6), 4), door(at(5, 6), at(3, 4), 2),
	} {
		if !Exits([]api.Exit{x, y}) || !Exits([]api.Exit{y, {}, x}) {
			t.Error("may be", y)
		}
	}
	for _, to := range []api.Ref{at(5, 6), at(5, 7), at(4, 6), at(0, 0), at(3, 4)} {
		y := door(at(3, 4), to, 2)
		if Exits([]api.Exit{x, y}) || Exits([]api.Exit{y, {}, {}, x}) {
			t.Error("may not be", y)
		}
	}
}

// Numbers that stand together as well as others may: none is taken for another one.
func TestCrowd(t *testing.T) {
	l := crowd(128)
	if !Exits(l) || Exits(append(l, l[70000])) || Exits(append(l, l[0])) {
		t.Error("all that there may be")
	}
	free := slices.Clone(l)
	free[90000] = api.Exit{}
	if !Exits(append(free, l[90000])) {
		t.Error("at another slot")
	}
}

func TestDig(t *testing.T) {
	for _, l := range roomLists() {
		was := slices.Clone(l)
		free := slices.Index(l, api.Room{})
		for _, s := range good() {
			got, i, e := Dig(l, s)
			if free < 0 {
				if len(got) != 0 || i != 0 || e != api.ErrFull {
					t.Error("full", l, got, i, e)
				}
				continue
			}
			want := slices.Clone(was)
			want[free] = yard(s)
			if !slices.Equal(got, want) || i != free || e != api.OK {
				t.Error(l, s, got, i, e)
			}
		}
		for _, s := range bad() {
			// Ahead of a list that is full.
			if got, i, e := Dig(l, s); len(got) != 0 || i != 0 || e != api.ErrForm {
				t.Error("no name", l, len(s), got, i, e)
			}
		}
		if !slices.Equal(l, was) {
			t.Error("changed", was, l)
		}
	}
}

func TestWrongDig(t *testing.T) {
	for _, x := range wrongRooms() {
		for _, l := range [][]api.Room{{x}, {x, {}}, {{}, x}, {{}, yard("a"), x}} {
			// Ahead of a text that is no name, and of a list that is full.
			for _, s := range []string{"a", "", "A"} {
				if got, i, e := Dig(l, s); len(got) != 0 || i != 0 || e != api.ErrArg {
					t.Error(len(x.Name), s, got, i, e)
				}
			}
		}
	}
}

// P15.2

func TestExample(t *testing.T) {
	l, i, e := Link([]api.Exit{{}}, at(0, 0), at(0, 1), 2)
	if !slices.Equal(l, []api.Exit{door(at(0, 0), at(0, 1), 2)}) || i != 0 || e != api.OK {
		t.Error("Link", l, i, e)
	}
	if to, ok := Find(l, at(0, 0), 2); to != at(0, 1) || !ok {
		t.Error("Find", to, ok)
	}
}

// exitLists are lists of up to three slots, of some few exits, that may be.
func exitLists() [][]api.Exit {
	some := []api.Exit{{}, door(at(0, 0), at(0, 1), 0), door(at(0, 0), at(1, 0), 5), door(at(0, 1), at(0, 0), 0), door(at(1, 0), at(0, 0), 0), door(at(0, 0), at(0, 0), 0)}
	out := [][]api.Exit{nil, {}}
	for _, a := range some {
		out = append(out, []api.Exit{a})
		for _, b := range some {
			out = append(out, []api.Exit{a, b})
			for _, c := range some {
				out = append(out, []api.Exit{a, b, c})
			}
		}
	}
	return slices.DeleteFunc(out, doubled)
}

// begun are the slots of a list that are used, by where their exits begin.
func begun(l []api.Exit) map[[3]int]int {
	out := map[[3]int]int{}
	for i := len(l) - 1; i >= 0; i-- {
		if l[i].Used {
			out[[3]int{l[i].From.Label, l[i].From.Slot, l[i].Dir}] = i
		}
	}
	return out
}

// doubled tells whether two exits of a list begin alike.
func doubled(l []api.Exit) bool {
	n := 0
	for _, x := range l {
		if x.Used {
			n++
		}
	}
	return len(begun(l)) != n
}

// refs are the rooms that are asked of.
func refs() []api.Ref { return []api.Ref{at(0, 0), at(0, 1), at(1, 0), at(1, 1), at(127, 127)} }

func TestLink(t *testing.T) {
	for _, l := range exitLists() {
		was := slices.Clone(l)
		free := slices.Index(l, api.Exit{})
		for _, from := range refs() {
			for _, to := range refs() {
				for dir := range 6 {
					got, i, e := Link(l, from, to, dir)
					if _, taken := begun(l)[[3]int{from.Label, from.Slot, dir}]; taken {
						// Also of a list that is full.
						if len(got) != 0 || i != 0 || e != api.ErrTaken {
							t.Error("taken", l, from, to, dir, got, i, e)
						}
						continue
					}
					if free < 0 {
						if len(got) != 0 || i != 0 || e != api.ErrFull {
							t.Error("full", l, from, to, dir, got, i, e)
						}
						continue
					}
					want := slices.Clone(was)
					want[free] = door(from, to, dir)
					if !slices.Equal(got, want) || i != free || e != api.OK {
						t.Error(l, from, to, dir, got, i, e)
					}
				}
			}
		}
		if !slices.Equal(l, was) {
			t.Error("changed", was, l)
		}
	}
}

func TestLinkAtEdges(t *testing.T) {
	for _, n := range numbers() {
		for _, m := range numbers() {
			for dir := range 6 {
				for _, ends := range [][2]api.Ref{{at(n, m), at(0, 0)}, {at(0, 0), at(n, m)}, {at(n, m), at(n, m)}, {at(n, m), at(m, n)}} {
					got, i, e := Link(make([]api.Exit, 2), ends[0], ends[1], dir)
					if !slices.Equal(got, []api.Exit{door(ends[0], ends[1], dir), {}}) || i != 0 || e != api.OK {
						t.Error(ends, dir, got, i, e)
					}
				}
			}
		}
	}
}

// refused holds what Link answers against ErrArg, with nothing beside it.
func refused(t *testing.T, l []api.Exit, from, to api.Ref, dir int) {
	t.Helper()
	if got, i, e := Link(l, from, to, dir); len(got) != 0 || i != 0 || e != api.ErrArg {
		t.Error(l, from, to, dir, "is", got, i, e)
	}
}

func TestWrongLink(t *testing.T) {
	full := []api.Exit{door(at(0, 0), at(0, 1), 0)}
	for _, l := range [][]api.Exit{nil, {{}}, {{}, {}}, full, {full[0], {}}} {
		for _, dir := range noDirs() {
			refused(t, l, at(0, 0), at(0, 1), dir)
			refused(t, l, at(1, 0), at(0, 1), dir)
		}
		for _, ref := range noRefs() {
			refused(t, l, ref, at(0, 1), 0)
			// Ahead of a way that is taken, and of a list that is full.
			refused(t, l, at(0, 0), ref, 0)
			refused(t, l, at(1, 0), ref, 0)
			refused(t, l, ref, ref, 6)
		}
	}
	for _, l := range wrongLists() {
		refused(t, l, at(9, 9), at(0, 0), 1)
		refused(t, l, at(3, 4), at(0, 0), 2)
		refused(t, l, at(0, 0), at(0, 0), 0)
	}
}

func TestClose(t *testing.T) {
	for _, l := range exitLists() {
		was := slices.Clone(l)
		for _, from := range refs() {
			for dir := -1; dir < 7; dir++ {
				got, e := Close(l, from, dir)
				slot, taken := begun(l)[[3]int{from.Label, from.Slot, dir}]
				if !taken {
					if len(got) != 0 || e != api.ErrNone {
						t.Error("none", l, from, dir, got, e)
					}
					continue
				}
				want := slices.Clone(was)
				want[slot] = api.Exit{}
				if !slices.Equal(got, want) || e != api.OK {
					t.Error(l, from, dir, got, e)
				}
			}
		}
		if !slices.Equal(l, was) {
			t.Error("changed", was, l)
		}
	}
}

func TestWrongClose(t *testing.T) {
	// No exit leads from a room that there is not, or in a direction that there is not.
	for _, l := range exitLists() {
		for _, ref := range noRefs() {
			if got, e := Close(l, ref, 0); len(got) != 0 || e != api.ErrNone {
				t.Error("no room", l, ref, got, e)
			}
		}
		for _, dir := range noDirs() {
			if got, e := Close(l, at(0, 0), dir); len(got) != 0 || e != api.ErrNone {
				t.Error("no direction", l, dir, got, e)
			}
		}
	}
	for _, l := range wrongLists() {
		for _, x := range append(slices.Clone(l), door(at(9, 9), at(0, 0), 0)) {
			if got, e := Close(l, x.From, x.Dir); len(got) != 0 || e != api.ErrArg {
				t.Error("may not be", l, x, got, e)
			}
		}
	}
}

// anyLists are lists of exits, those that may not be among them.
func anyLists() [][]api.Exit {
	out := append(exitLists(), wrongLists()...)
	for _, x := range wrongExits() {
		y := x
		y.To = at(77, 78)
		out = append(out, []api.Exit{x, y}, []api.Exit{{}, y, x}, []api.Exit{y, door(at(0, 0), at(1, 2), 3), door(at(0, 0), at(0, 2), 1), x})
	}
	return out
}

func TestFind(t *testing.T) {
	asked := func(l []api.Exit, from api.Ref, dir int) {
		t.Helper()
		want, there := api.Ref{}, false
		if i, ok := begun(l)[[3]int{from.Label, from.Slot, dir}]; ok {
			want, there = l[i].To, true
		}
		if to, ok := Find(l, from, dir); to != want || ok != there {
			t.Error(l, from, dir, to, ok)
		}
	}
	for _, l := range anyLists() {
		was := slices.Clone(l)
		for _, x := range append(slices.Clone(l), wrongExits()[0], door(at(9, 9), at(0, 0), 0)) {
			asked(l, x.From, x.Dir)
			asked(l, x.From, x.Dir+1)
			asked(l, x.To, x.Dir)
			asked(l, at(x.From.Slot, x.From.Label), x.Dir)
		}
		for _, from := range refs() {
			for dir := -1; dir < 7; dir++ {
				asked(l, from, dir)
			}
		}
		if !slices.Equal(l, was) {
			t.Error("changed", was, l)
		}
	}
}

func TestFindWritten(t *testing.T) {
	l := []api.Exit{
		{From: at(0, 0), To: at(9, 9), Dir: 4},
		door(at(0, 0), at(0, 3), 4), door(at(0, 0), at(0, 4), 4), door(at(-1, 500), at(-7, 8), 99), door(at(0, 5), at(0, 0), math.MinInt),
	}
	for _, x := range []struct {
		from api.Ref
		dir  int
		to   api.Ref
		ok   bool
	}{
		{at(0, 0), 4, at(0, 3), true}, {at(-1, 500), 99, at(-7, 8), true}, {at(0, 5), math.MinInt, at(0, 0), true},
		{at(0, 0), 3, api.Ref{}, false}, {at(0, 1), 4, api.Ref{}, false}, {at(1, 0), 4, api.Ref{}, false},
		{at(500, -1), 99, api.Ref{}, false}, {at(-1, 500), 0, api.Ref{}, false}, {at(0, 5), 0, api.Ref{}, false},
	} {
		if to, ok := Find(l, x.from, x.dir); to != x.to || ok != x.ok {
			t.Error(x, to, ok)
		}
	}
	if to, ok := Find([]api.Exit{{}, {}}, at(0, 0), 0); to != (api.Ref{}) || ok {
		t.Error("a free slot leads somewhere", to, ok)
	}
}

func TestWays(t *testing.T) {
	for _, l := range anyLists() {
		was := slices.Clone(l)
		rooms := refs()
		for _, x := range l {
			rooms = append(rooms, x.From, x.To)
		}
		for _, from := range rooms {
			var want []int
			for dir := range 6 {
				if _, ok := begun(l)[[3]int{from.Label, from.Slot, dir}]; ok {
					want = append(want, dir)
				}
			}
			if got := Ways(l, from); !slices.Equal(got, want) {
				t.Error(l, from, got, want)
			}
		}
		if !slices.Equal(l, was) {
			t.Error("changed", was, l)
		}
	}
}

func TestWaysWritten(t *testing.T) {
	l := []api.Exit{
		door(at(1, 2), at(0, 0), 5), door(at(2, 1), at(0, 0), 1), {}, door(at(1, 2), at(0, 0), 0), door(at(1, 2), at(0, 0), 3),
		door(at(1, 2), at(1, 1), 3), door(at(1, 2), at(0, 0), 6), door(at(1, 2), at(0, 0), -1), {From: at(1, 2), Dir: 2}, door(at(1, 2), at(500, -5), 4),
	}
	if got := Ways(l, at(1, 2)); !slices.Equal(got, []int{0, 3, 4, 5}) {
		t.Error("rising, each once", got)
	}
	if got := Ways(l, at(2, 1)); !slices.Equal(got, []int{1}) {
		t.Error("of another one", got)
	}
	if got := Ways(l, at(0, 0)); len(got) != 0 {
		t.Error("where they lead", got)
	}
	var all []api.Exit
	for _, dir := range []int{4, 2, 0, 5, 3, 1} {
		all = append(all, door(at(7, 7), at(7, 7), dir))
	}
	if got := Ways(all, at(7, 7)); !slices.Equal(got, []int{0, 1, 2, 3, 4, 5}) {
		t.Error("all", got)
	}
}

func TestNewMemory(t *testing.T) {
	rooms := []api.Room{yard("a"), {}}
	dug, _, _ := Dig(rooms, "b")
	clear(dug)
	if !slices.Equal(rooms, []api.Room{yard("a"), {}}) {
		t.Error("Dig", rooms)
	}
	one := door(at(0, 0), at(0, 1), 2)
	exits := []api.Exit{one, {}}
	linked, _, _ := Link(exits, at(0, 0), at(0, 1), 3)
	clear(linked)
	closed, _ := Close(exits, at(0, 0), 2)
	for i := range closed {
		closed[i] = door(at(9, 9), at(9, 9), 1)
	}
	ways := Ways(exits, at(0, 0))
	ways[0] = 7
	if !slices.Equal(exits, []api.Exit{one, {}}) || !slices.Equal(Ways(exits, at(0, 0)), []int{2}) {
		t.Error("Link, Close, Ways", exits)
	}
	linked, _, _ = Link(exits, at(0, 0), at(0, 1), 3)
	clear(exits)
	if !slices.Equal(linked, []api.Exit{one, door(at(0, 0), at(0, 1), 3)}) {
		t.Error("what was handed in is kept", linked)
	}
}

func TestBehindTheEnd(t *testing.T) {
	rooms := []api.Room{{}, yard("a"), {}, yard("A")}
	dug, i, e := Dig(rooms[:2], "b")
	if !slices.Equal(dug, []api.Room{yard("b"), yard("a")}) || i != 0 || e != api.OK {
		t.Error("what lies behind is read", dug, i, e)
	}
	if _, _, e := Dig(rooms[1:2], "b"); e != api.ErrFull {
		t.Error("a slot behind the end is free", e)
	}
	_ = append(dug, yard("c"))
	if slices.Contains(dug[:cap(dug)], yard("A")) || rooms[2] != (api.Room{}) || rooms[3] != yard("A") {
		t.Error("what lies behind is written or handed out", rooms)
	}
	one, two := door(at(0, 0), at(0, 1), 2), door(at(0, 0), at(0, 1), 3)
	exits := []api.Exit{one, {}, two, one}
	linked, i, e := Link(exits[:2], at(0, 0), at(5, 5), 3)
	if !slices.Equal(linked, []api.Exit{one, door(at(0, 0), at(5, 5), 3)}) || i != 1 || e != api.OK {
		t.Error("what lies behind is read", linked, i, e)
	}
	if _, e := Close(exits[:2], at(0, 0), 3); e != api.ErrNone {
		t.Error("Close behind the end", e)
	}
	if to, ok := Find(exits[:2], at(0, 0), 3); ok || to != (api.Ref{}) || !slices.Equal(Ways(exits[:2], at(0, 0)), []int{2}) {
		t.Error("Find, Ways behind the end", to)
	}
	_ = append(linked, one)
	if slices.Contains(linked[:cap(linked)], two) || exits[2] != two || exits[3] != one {
		t.Error("what lies behind is written or handed out", exits)
	}
}

// P15.3

// All that can be linked and closed is done on all lists that come of it.
func TestWhatComesOfIt(t *testing.T) {
	const slots = 3
	rooms := []api.Ref{at(0, 0), at(0, 127), at(127, 0)}
	all := [][]api.Exit{make([]api.Exit, slots)}
	known := map[[slots]api.Exit]int{[slots]api.Exit(all[0]): 1}
	come := func(l []api.Exit) {
		if !Exits(l) || len(l) != slots {
			t.Fatal("may not be", l)
		}
		if known[[slots]api.Exit(l)]++; known[[slots]api.Exit(l)] == 1 {
			all = append(all, l)
		}
	}
	for i := 0; i < len(all); i++ {
		for _, from := range rooms {
			for _, dir := range []int{0, 5} {
				was, there := Find(all[i], from, dir)
				for _, to := range rooms[:2] {
					linked, _, e := Link(all[i], from, to, dir)
					if e != api.OK {
						continue
					}
					come(linked)
					if got, ok := Find(linked, from, dir); there || got != to || !ok {
						t.Fatal("not found", all[i], from, to, dir)
					}
					if closed, e := Close(linked, from, dir); e != api.OK || !slices.Equal(closed, all[i]) {
						t.Fatal("not as it was", all[i], from, dir, closed, e)
					}
				}
				closed, e := Close(all[i], from, dir)
				if (e == api.OK) != there {
					t.Fatal("not closed", all[i], from, dir, e)
				}
				if e != api.OK {
					continue
				}
				come(closed)
				if _, ok := Find(closed, from, dir); ok {
					t.Fatal("found", closed, from, dir)
				}
				again, _, e := Link(closed, from, was, dir)
				if to, ok := Find(again, from, dir); e != api.OK || !ok || to != was {
					t.Fatal("not linked again", closed, from, dir, e)
				}
				come(again)
			}
		}
	}
	// Six ways to begin, and two rooms to lead to, on three slots, none twice: all of it is come to.
	if len(all) != 1+3*12+3*12*10+12*10*8 {
		t.Error(len(all))
	}
}

// What was linked is found till it is closed, whatever else is linked and closed.
func TestFoundTillClosed(t *testing.T) {
	l := make([]api.Exit, 4)
	l, _, e := Link(l, at(1, 1), at(2, 2), 3)
	if e != api.OK {
		t.Fatal(e)
	}
	for range 3 {
		for dir := range 6 {
			for _, from := range refs() {
				if from == at(1, 1) && dir == 3 {
					continue
				}
				more, _, e := Link(l, from, at(9, 9), dir)
				if to, ok := Find(more, at(1, 1), 3); e != api.OK || !ok || to != at(2, 2) {
					t.Fatal("not found", from, dir, e)
				}
				if l, e = Close(more, from, dir); e != api.OK {
					t.Fatal("not closed", from, dir, e)
				}
			}
		}
	}
	if to, ok := Find(l, at(1, 1), 3); !ok || to != at(2, 2) {
		t.Error(to, ok)
	}
}

// As many rooms are dug as there are slots.
func TestDugOut(t *testing.T) {
	l := make([]api.Room, 12)
	for n := range 12 {
		got, i, e := Dig(l, good()[n%len(good())])
		if i != n || e != api.OK || len(got) != 12 || !Rooms(got) {
			t.Fatal(n, got, i, e)
		}
		l = got
	}
	if got, i, e := Dig(l, "a"); len(got) != 0 || i != 0 || e != api.ErrFull {
		t.Error(got, i, e)
	}
}
