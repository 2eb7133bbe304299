package walk

import (
	"cmp"
	"math"
	"slices"
	"strings"
	"testing"

	"rialto/api"
	"rialto/state"
	"rialto/town"
	"rialto/view"
)

var (
	plaza = api.Ref{}
	yard  = api.Ref{Slot: 2}
	den   = api.Ref{Label: town.Hall, Slot: 1}
	nook  = api.Ref{Label: town.Club}
	hut   = api.Ref{Label: town.Attic}
	vault = api.Ref{Label: town.Top, Slot: 1}
)

// place is a world to walk in: a realm, and a state of it that may be.
type place struct {
	name string
	r    api.Realm
	s    api.State
}

func places() []place {
	out := []place{{"town", town.Realm(), town.State()}, {"roomy", town.Roomy(), town.Spread()}, {"least", town.Least(), fresh(town.Least())}, {"new", town.Roomy(), fresh(town.Roomy())}}
	for i, from := range town.Sights() {
		out = append(out, place{"hidden", town.Roomy(), town.Hidden(town.Roomy(), town.Spread(), from, i%2 == 0)})
	}
	return out
}

// fresh is the new state of a realm.
func fresh(r api.Realm) api.State {
	s, _ := state.New(r)
	return s
}

// at is somebody of the town who acts.
func at(line, who int) api.Me {
	return api.Me{Line: line, Label: town.Roomy().Lines[line], Who: who}
}

// refs are rooms that there may be, and others.
func refs() []api.Ref {
	var out []api.Ref
	numbers := []int{math.MinInt, -256, -1, 0, 1, 2, 3, 4, 5, 6, 11, 12, 127, 128, 256, 1 << 32, math.MaxInt}
	for _, label := range numbers {
		for _, slot := range numbers {
			out = append(out, api.Ref{Label: label, Slot: slot})
		}
	}
	return out
}

// noDirs are numbers that are no directions.
func noDirs() []int {
	return []int{math.MinInt, -256, -6, -2, -1, 6, 7, 12, 127, 128, 255, 256, 1 << 32, 1<<32 + 1, math.MaxInt}
}

// below tells anew whether one's label is at or below that of a place.
func below(r api.Realm, i, j int) bool {
	a, b := r.Labels[i], r.Labels[j]
	return a.Level <= b.Level && a.Comps&^b.Comps == 0
}

// mine is one's place.
func mine(s api.State, me api.Me) api.Ref { return s.Shelves[me.Label].Places[me.Who] }

// waysOf works out anew where the ways from one's place lead: what the lesser place has stands instead of what a greater one has.
func waysOf(r api.Realm, s api.State, me api.Me) map[int]api.Ref {
	out := map[int]api.Ref{}
	for i := len(s.Shelves) - 1; i >= 0; i-- {
		for _, x := range s.Shelves[i].Exits {
			if below(r, i, me.Label) && x.Used && x.From == mine(s, me) {
				out[x.Dir] = x.To
			}
		}
	}
	return out
}

// lesser tells how rooms stand: by Label, then by Slot.
func lesser(a, b api.Ref) int {
	return cmp.Or(cmp.Compare(a.Label, b.Label), cmp.Compare(a.Slot, b.Slot))
}

// P28.1

func TestLook(t *testing.T) {
	for _, x := range []struct {
		me   api.Me
		at   api.Ref
		name string
		ways []int
	}{
		{at(0, town.Alice), plaza, "plaza", []int{1}},
		{at(0, town.Bob), yard, "yard", []int{0}},
		{at(5, town.Bob), yard, "yard", []int{0}},
		{at(1, town.Alice), yard, "yard", []int{0, 2}},
		{at(1, town.Bob), den, "den", []int{5}},
		{at(1, town.Carol), plaza, "plaza", []int{1}},
		{at(3, town.Alice), nook, "nook", []int{0}},
		{at(3, town.Carol), yard, "yard", []int{0}},
		{at(4, town.Alice), hut, "hut", []int{5}},
		{at(4, town.Bob), den, "den", []int{0, 5}},
		{at(2, town.Alice), vault, "vault", []int{3}},
		{at(2, town.Bob), nook, "nook", []int{0, 4}},
		{at(2, town.Carol), den, "den", []int{0, 5}},
	} {
		at, name, ways, e := Look(town.Realm(), town.State(), x.me)
		if at != x.at || name != x.name || !slices.Equal(ways, x.ways) || e != api.OK {
			t.Error(x.me, at, name, ways, e)
		}
	}
	for _, x := range places() {
		for _, me := range town.Everyone(x.r) {
			at, name, ways, e := Look(x.r, x.s, me)
			want := mine(x.s, me)
			var dirs []int
			for dir := range waysOf(x.r, x.s, me) {
				dirs = append(dirs, dir)
			}
			slices.Sort(dirs)
			if at != want || name != x.s.Shelves[want.Label].Rooms[want.Slot].Name || !slices.Equal(ways, dirs) || e != api.OK {
				t.Error(x.name, me, at, name, ways, e)
			}
		}
	}
}

func TestExample(t *testing.T) {
	for _, r := range []api.Realm{town.Realm(), town.Least(), town.Full()} {
		for _, me := range town.Everyone(r) {
			at, name, ways, e := Look(r, fresh(r), me)
			if at != plaza || name != "plaza" || len(ways) != 0 || e != api.OK {
				t.Error(me, at, name, ways, e)
			}
			if l, e := Who(r, fresh(r), me); len(l) != 0 || e != api.OK {
				t.Error(me, l, e)
			}
			if l, e := Rooms(r, fresh(r), me); !slices.Equal(l, []api.Ref{plaza}) || e != api.OK {
				t.Error(me, l, e)
			}
		}
	}
}

func TestWho(t *testing.T) {
	for _, x := range []struct {
		me api.Me
		l  []api.Ref
	}{
		{at(0, town.Bob), []api.Ref{{Slot: town.Bob}}},
		{at(0, town.Alice), []api.Ref{{Slot: town.Alice}}},
		{at(0, town.Carol), []api.Ref{{Slot: town.Alice}}},
		{at(1, town.Alice), []api.Ref{{Slot: town.Bob}}},
		{at(1, town.Bob), []api.Ref{{Label: town.Hall, Slot: town.Bob}}},
		{at(3, town.Alice), nil},
		{at(4, town.Carol), []api.Ref{{Slot: town.Alice}, {Label: town.Attic, Slot: town.Carol}}},
		{at(2, town.Carol), []api.Ref{{Label: town.Hall, Slot: town.Bob}}},
		{at(2, town.Alice), []api.Ref{{Label: town.Top, Slot: town.Alice}}},
	} {
		if l, e := Who(town.Realm(), town.State(), x.me); !slices.Equal(l, x.l) || e != api.OK {
			t.Error(x.me, l, e)
		}
	}
	for _, x := range places() {
		for _, me := range town.Everyone(x.r) {
			want := map[api.Ref]int{}
			for line, label := range x.r.Lines {
				who := x.s.Sessions[line]
				if below(x.r, label, me.Label) && who >= 0 && x.s.Shelves[label].Places[who] == mine(x.s, me) {
					want[api.Ref{Label: label, Slot: who}]++
				}
			}
			l, e := Who(x.r, x.s, me)
			if e != api.OK || len(l) != len(want) || !slices.IsSortedFunc(l, lesser) {
				t.Error(x.name, me, l, e)
			}
			for _, at := range l {
				if want[at] == 0 {
					t.Error(x.name, me, at)
				}
			}
		}
	}
}

func TestWhoTwice(t *testing.T) {
	s := town.State()
	s.Sessions = []int{town.Bob, town.Bob, -1, -1, town.Bob, town.Bob}
	s.Shelves[town.Attic].Places = []api.Ref{yard, yard, yard}
	// At two lines of the bottom, and at one of the attic, where the shelf is another one; in the hall he is in the den.
	for me, want := range map[api.Me][]api.Ref{
		at(0, town.Bob):   {{Slot: town.Bob}},
		at(0, town.Alice): nil,
		at(4, town.Carol): {{Slot: town.Bob}, {Label: town.Attic, Slot: town.Bob}},
		at(1, town.Bob):   {{Label: town.Hall, Slot: town.Bob}},
	} {
		if l, e := Who(town.Realm(), s, me); !slices.Equal(l, want) || e != api.OK {
			t.Error(me, l, want, e)
		}
	}
}

func TestWhoRises(t *testing.T) {
	// Lines stand in another order than labels and accounts.
	r, s := town.Realm(), town.State()
	r.Lines = []int{town.Top, town.Attic, town.Hall, town.Bottom, town.Bottom, town.Bottom, town.Club}
	s.Audit, s.Orders = nil, make([]api.Order, 4)
	s.Sessions = []int{0, 0, 0, 2, 0, 1, 0}
	for i := range s.Shelves {
		s.Shelves[i].Places = make([]api.Ref, 3)
		s.Shelves[i].Burned = [4]uint64{}
	}
	for i := range s.Shelves {
		s.Shelves[i].Trades = make([]api.Trade, len(s.Shelves[i].Trades))
		s.Shelves[i].Items = make([]api.Item, len(s.Shelves[i].Items))
		s.Shelves[i].Purses = make([][4]uint64, 3)
		s.Shelves[i].Minted = [4]uint64{}
	}
	want := []api.Ref{{}, {Slot: 1}, {Slot: 2}, {Label: town.Hall}, {Label: town.Club}, {Label: town.Attic}, {Label: town.Top}}
	if l, e := Who(r, s, api.Me{Label: town.Top}); !slices.Equal(l, want) || e != api.OK {
		t.Error(l, e)
	}
	if l, e := Who(r, s, api.Me{Line: 6, Label: town.Club}); !slices.Equal(l, []api.Ref{{}, {Slot: 1}, {Slot: 2}, {Label: town.Club}}) || e != api.OK {
		t.Error(l, e)
	}
}

func TestRooms(t *testing.T) {
	all := []api.Ref{plaza, yard, den, nook, hut, vault}
	for line, want := range [][]api.Ref{{plaza, yard}, {plaza, yard, den}, all, {plaza, yard, nook}, {plaza, yard, den, hut}, {plaza, yard}} {
		for who := range 3 {
			if l, e := Rooms(town.Realm(), town.State(), at(line, who)); !slices.Equal(l, want) || e != api.OK {
				t.Error(line, who, l, e)
			}
		}
	}
	for _, x := range places() {
		for _, me := range town.Everyone(x.r) {
			var want []api.Ref
			for i, shelf := range x.s.Shelves {
				for slot, room := range shelf.Rooms {
					if room.Used && below(x.r, i, me.Label) {
						want = append(want, api.Ref{Label: i, Slot: slot})
					}
				}
			}
			if l, e := Rooms(x.r, x.s, me); !slices.Equal(l, want) || e != api.OK {
				t.Error(x.name, me, l, want, e)
			}
		}
	}
}

// P28.2

// came holds a new state against the one that was handed in, in which something was done by hand.
func came(t *testing.T, what string, r api.Realm, was, got api.State, do func(s *api.State)) {
	t.Helper()
	want := state.Clone(was)
	do(&want)
	if !state.Same(got, want) {
		t.Error(what, "is another state")
	}
	if !state.Right(r, got) {
		t.Error(what, "may not be")
	}
}

// nothing tells whether a state is the zero value.
func nothing(s api.State) bool {
	return s.Round == 0 && len(s.Shelves) == 0 && len(s.Ranks) == 0 && len(s.Orders) == 0 && len(s.Audit) == 0 && len(s.Sessions) == 0
}

func TestGo(t *testing.T) {
	for _, x := range places() {
		for _, me := range town.Everyone(x.r) {
			ways := waysOf(x.r, x.s, me)
			for dir := range api.Dirs {
				s, got, e := Go(x.r, x.s, me, dir)
				to, leads := ways[dir]
				if !leads {
					if e != api.ErrNone || !nothing(s) || got != plaza {
						t.Error(x.name, me, dir, got, e)
					}
					continue
				}
				if e != api.OK || got != to {
					t.Error(x.name, me, dir, got, to, e)
				}
				came(t, "Go", x.r, x.s, s, func(s *api.State) { s.Shelves[me.Label].Places[me.Who] = to })
			}
		}
	}
}

func TestGoByHand(t *testing.T) {
	r, s := town.Roomy(), town.Spread()
	for _, x := range []struct {
		what string
		me   api.Me
		dir  int
		to   api.Ref
		e    api.Errno
	}{
		{"a way of the bottom", at(0, town.Bob), 0, plaza, api.OK},
		{"a way of the hall", at(1, town.Alice), 2, den, api.OK},
		{"a way of the bottom, from above", at(1, town.Alice), 0, plaza, api.OK},
		{"a way of the attic, that is not seen from the hall", at(1, town.Bob), 0, plaza, api.ErrNone},
		{"the way of the attic", at(4, town.Bob), 0, hut, api.OK},
		{"of the hall and the attic, that of the hall", at(4, town.Bob), 5, plaza, api.OK},
		{"of the hall, the club and the top, that of the hall", at(1, town.Carol), 4, den, api.OK},
		{"from the attic just that of the hall is seen", at(4, town.Carol), 4, den, api.OK},
		{"the exits of the hall and above are not seen at the bottom", at(0, town.Alice), 4, plaza, api.ErrNone},
		{"nor those of the hall in the upper label", at(6, town.Alice), 4, plaza, api.ErrNone},
		{"no way", at(0, town.Bob), 5, plaza, api.ErrNone},
	} {
		n, to, e := Go(r, s, x.me, x.dir)
		if to != x.to || e != x.e || (e != api.OK) != nothing(n) {
			t.Error(x.what, to, e)
		}
	}
	// From the top, in the plaza, four exits are seen in the direction 4, or three, or one.
	me := at(2, town.Carol)
	s.Shelves[town.Top].Places[town.Carol] = plaza
	for _, x := range []struct {
		shelf, slot int
		to          api.Ref
	}{{town.Hall, 9, den}, {town.Club, 2, nook}, {town.Top, 2, hut}} {
		if _, to, e := Go(r, s, me, 4); to != x.to || e != api.OK {
			t.Error("the least place", x, to, e)
		}
		s.Shelves[x.shelf].Exits[x.slot] = api.Exit{}
	}
	if _, _, e := Go(r, s, me, 4); e != api.ErrNone {
		t.Error("none is left", e)
	}
}

func TestGoAndComeBack(t *testing.T) {
	r, s := town.Realm(), town.State()
	me := at(0, town.Bob)
	s, to, e := Go(r, s, me, 0)
	if to != plaza || e != api.OK {
		t.Fatal(to, e)
	}
	// His places on other shelves stay.
	if got, _, _, _ := Look(r, s, at(1, town.Bob)); got != den {
		t.Error("he went on another shelf", got)
	}
	s, to, e = Go(r, s, me, 1)
	if to != yard || e != api.OK || !state.Same(s, town.State()) {
		t.Error("not back", to, e)
	}
}

func TestDig(t *testing.T) {
	for _, x := range places() {
		for _, me := range town.Everyone(x.r) {
			free := slices.IndexFunc(x.s.Shelves[me.Label].Rooms, func(y api.Room) bool { return !y.Used })
			for _, name := range []string{"a", "plaza", "yard", "cellar7", strings.Repeat("z", 12)} {
				s, got, e := Dig(x.r, x.s, me, name)
				if free < 0 {
					if e != api.ErrFull || !nothing(s) || got != plaza {
						t.Error(x.name, me, got, e)
					}
					continue
				}
				if e != api.OK || got != (api.Ref{Label: me.Label, Slot: free}) {
					t.Error(x.name, me, got, e)
				}
				came(t, "Dig", x.r, x.s, s, func(s *api.State) { s.Shelves[me.Label].Rooms[free] = api.Room{Used: true, Name: name} })
			}
			for _, name := range []string{"", "A", "2a", " a", "a ", "a b", "é", "a\n", strings.Repeat("z", 13)} {
				if s, got, e := Dig(x.r, x.s, me, name); e != api.ErrForm || !nothing(s) || got != plaza {
					t.Error(x.name, me, name, got, e)
				}
			}
		}
	}
}

// linked is what Link answers, worked out anew: a slot and an error.
func linked(r api.Realm, s api.State, me api.Me, dir int, to api.Ref) (int, api.Errno) {
	exits, free := s.Shelves[me.Label].Exits, -1
	switch {
	case dir < 0 || dir > 5:
		return 0, api.ErrArg
	case to.Label < 0 || to.Label >= len(s.Shelves) || !below(r, to.Label, me.Label):
		return 0, api.ErrNone
	case to.Slot < 0 || to.Slot >= len(s.Shelves[to.Label].Rooms) || !s.Shelves[to.Label].Rooms[to.Slot].Used:
		return 0, api.ErrNone
	}
	for i, x := range exits {
		if x.Used && x.From == mine(s, me) && x.Dir == dir {
			return 0, api.ErrTaken
		}
		if !x.Used && free < 0 {
			free = i
		}
	}
	if free < 0 {
		return 0, api.ErrFull
	}
	return free, api.OK
}

func TestLink(t *testing.T) {
	count := map[api.Errno]int{}
	for i, x := range places()[:12] {
		for _, me := range town.Everyone(x.r) {
			for j, to := range refs() {
				// What is no room is tried in one town: it is answered alike in all.
				if i > 0 && (j%3 != 0 || !state.IsRoom(x.r, x.s, to)) {
					continue
				}
				for _, dir := range []int{j % 6, (j/6 + 3) % 6, j%8 - 1} {
					slot, want := linked(x.r, x.s, me, dir, to)
					s, got, e := Link(x.r, x.s, me, dir, to)
					count[e]++
					if e != want || got != slot || (e != api.OK) != nothing(s) {
						t.Error(x.name, me, dir, to, got, e, "- want", slot, want)
					}
					if e == api.OK {
						y := api.Exit{Used: true, From: mine(x.s, me), To: to, Dir: dir}
						came(t, "Link", x.r, x.s, s, func(s *api.State) { s.Shelves[me.Label].Exits[slot] = y })
					}
				}
			}
		}
	}
	for _, e := range []api.Errno{api.OK, api.ErrArg, api.ErrNone, api.ErrTaken, api.ErrFull} {
		if count[e] == 0 {
			t.Error("never", e)
		}
	}
}

func TestLinkByHand(t *testing.T) {
	r, s := town.Realm(), town.State()
	for _, x := range []struct {
		what string
		me   api.Me
		dir  int
		to   api.Ref
		slot int
		e    api.Errno
	}{
		{"to the yard", at(0, town.Alice), 3, yard, 1, api.OK},
		{"to where it begins", at(0, town.Alice), 3, plaza, 1, api.OK},
		{"taken", at(0, town.Alice), 1, plaza, 0, api.ErrTaken},
		{"to a slot that is free", at(0, town.Alice), 3, api.Ref{Slot: 1}, 0, api.ErrNone},
		{"to a slot that there is not", at(0, town.Alice), 3, api.Ref{Slot: 3}, 0, api.ErrNone},
		{"to the den, that is not seen", at(0, town.Alice), 3, den, 0, api.ErrNone},
		{"to one beside", at(1, town.Alice), 3, nook, 0, api.ErrNone},
		{"to one above", at(1, town.Bob), 3, hut, 0, api.ErrNone},
		{"not seen, ahead of taken", at(0, town.Alice), 1, den, 0, api.ErrNone},
		{"taken, ahead of full", at(1, town.Bob), 5, plaza, 0, api.ErrTaken},
		{"full", at(1, town.Bob), 1, plaza, 0, api.ErrFull},
		{"none, ahead of full", at(1, town.Bob), 1, nook, 0, api.ErrNone},
		{"what is taken on another shelf is free", at(2, town.Bob), 0, nook, 2, api.OK},
		{"from a place at a label below", at(2, town.Carol), 3, vault, 2, api.OK},
		{"no direction, ahead of no room", at(2, town.Carol), 6, api.Ref{Slot: 9}, 0, api.ErrArg},
	} {
		n, slot, e := Link(r, s, x.me, x.dir, x.to)
		if slot != x.slot || e != x.e || (e != api.OK) != nothing(n) {
			t.Error(x.what, slot, e)
		}
	}
	// What was linked is gone, but not where a lesser place has a way.
	n, _, _ := Link(r, s, at(2, town.Bob), 0, vault)
	if _, to, e := Go(r, n, at(2, town.Bob), 0); to != plaza || e != api.OK {
		t.Error("the lesser place", to, e)
	}
	n, _, _ = Link(r, s, at(2, town.Bob), 2, vault)
	if _, to, e := Go(r, n, at(2, town.Bob), 2); to != vault || e != api.OK {
		t.Error("what was linked", to, e)
	}
}

func TestClose(t *testing.T) {
	for _, x := range places() {
		for _, me := range town.Everyone(x.r) {
			for dir := range api.Dirs {
				slot := slices.IndexFunc(x.s.Shelves[me.Label].Exits, func(y api.Exit) bool { return y.Used && y.From == mine(x.s, me) && y.Dir == dir })
				s, e := Close(x.r, x.s, me, dir)
				if slot < 0 {
					if e != api.ErrNone || !nothing(s) {
						t.Error(x.name, me, dir, e)
					}
					continue
				}
				if e != api.OK {
					t.Error(x.name, me, dir, e)
				}
				came(t, "Close", x.r, x.s, s, func(s *api.State) { s.Shelves[me.Label].Exits[slot] = api.Exit{} })
			}
		}
	}
}

func TestCloseByHand(t *testing.T) {
	r, s := town.Roomy(), town.Spread()
	for _, x := range []struct {
		what string
		me   api.Me
		dir  int
		e    api.Errno
	}{
		{"of the bottom", at(0, town.Bob), 0, api.OK},
		{"of the bottom, from the hall", at(1, town.Alice), 0, api.ErrNone},
		{"of the hall", at(1, town.Alice), 2, api.OK},
		{"of the attic, from the hall", at(1, town.Bob), 0, api.ErrNone},
		{"of the attic", at(4, town.Bob), 0, api.OK},
		{"of the attic, beneath that of the hall", at(4, town.Bob), 5, api.OK},
		{"from another room", at(0, town.Bob), 1, api.ErrNone},
	} {
		n, e := Close(r, s, x.me, x.dir)
		if e != x.e || (e != api.OK) != nothing(n) {
			t.Error(x.what, e)
		}
		if e == api.OK {
			if _, e := Close(r, n, x.me, x.dir); e != api.ErrNone {
				t.Error(x.what, "twice", e)
			}
		}
	}
	// When the exit of the least place is no more, the way is that of the next one.
	n, _ := Close(r, s, at(1, town.Bob), 5)
	if _, to, e := Go(r, n, at(4, town.Bob), 5); to != hut || e != api.OK {
		t.Error("the next one", to, e)
	}
}

// Errors

// refused holds what all calls answer to somebody who may not act so.
func refused(t *testing.T, what any, r api.Realm, s api.State, me api.Me) {
	t.Helper()
	if at, name, ways, e := Look(r, s, me); at != plaza || name != "" || len(ways) != 0 || e != api.ErrArg {
		t.Error(what, "Look", at, name, ways, e)
	}
	if l, e := Who(r, s, me); len(l) != 0 || e != api.ErrArg {
		t.Error(what, "Who", l, e)
	}
	if l, e := Rooms(r, s, me); len(l) != 0 || e != api.ErrArg {
		t.Error(what, "Rooms", l, e)
	}
	for _, dir := range []int{0, 1, -1, 6} {
		if n, at, e := Go(r, s, me, dir); !nothing(n) || at != plaza || e != api.ErrArg {
			t.Error(what, "Go", at, e)
		}
		if n, slot, e := Link(r, s, me, dir, yard); !nothing(n) || slot != 0 || e != api.ErrArg {
			t.Error(what, "Link", slot, e)
		}
		if n, slot, e := Link(r, s, me, dir, api.Ref{Slot: -1}); !nothing(n) || slot != 0 || e != api.ErrArg {
			t.Error(what, "Link to no room", slot, e)
		}
		if n, e := Close(r, s, me, dir); !nothing(n) || e != api.ErrArg {
			t.Error(what, "Close", e)
		}
	}
	for _, name := range []string{"cellar", "", "No"} {
		if n, at, e := Dig(r, s, me, name); !nothing(n) || at != plaza || e != api.ErrArg {
			t.Error(what, "Dig", at, e)
		}
	}
}

func TestNobody(t *testing.T) {
	for _, x := range places()[:4] {
		for _, me := range town.Nobody(x.r) {
			refused(t, me, x.r, x.s, me)
		}
	}
}

func TestFaulty(t *testing.T) {
	for i, r := range town.Wrong() {
		for _, me := range append(town.Everyone(town.Realm()), api.Me{}, api.Me{Line: -1}) {
			refused(t, i, r, town.State(), me)
			refused(t, i, r, api.State{}, me)
		}
	}
	for i, s := range town.Faulty(town.Spread()) {
		for _, me := range append(town.Everyone(town.Roomy()), town.Nobody(town.Roomy())...) {
			refused(t, i, town.Roomy(), s, me)
		}
	}
	refused(t, "a state of another realm", town.Realm(), town.Spread(), at(0, 0))
	refused(t, "another state of the realm", town.Roomy(), town.State(), at(0, 0))
}

func TestNoDirection(t *testing.T) {
	for _, x := range places()[:4] {
		for _, me := range town.Everyone(x.r) {
			for _, dir := range noDirs() {
				if n, at, e := Go(x.r, x.s, me, dir); !nothing(n) || at != plaza || e != api.ErrArg {
					t.Error(me, dir, "Go", at, e)
				}
				for _, to := range []api.Ref{plaza, {Slot: 99}, {Label: -1}} {
					if n, slot, e := Link(x.r, x.s, me, dir, to); !nothing(n) || slot != 0 || e != api.ErrArg {
						t.Error(me, dir, "Link", slot, e)
					}
				}
				if n, e := Close(x.r, x.s, me, dir); !nothing(n) || e != api.ErrArg {
					t.Error(me, dir, "Close", e)
				}
			}
		}
	}
}

// P28.3 and P28.4

// deed is something that somebody does: what comes of it, what it tells, and its error.
type deed struct {
	what string
	do   func(r api.Realm, s api.State, me api.Me) (api.State, api.Ref, api.Errno)
}

// deeds are such, of all kinds.
func deeds() []deed {
	var out []deed
	for dir := -1; dir <= api.Dirs; dir++ {
		out = append(out,
			deed{"Go", func(r api.Realm, s api.State, me api.Me) (api.State, api.Ref, api.Errno) { return Go(r, s, me, dir) }},
			deed{"Close", func(r api.Realm, s api.State, me api.Me) (api.State, api.Ref, api.Errno) {
				n, e := Close(r, s, me, dir)
				return n, api.Ref{}, e
			}},
		)
		for i, to := range []api.Ref{plaza, yard, den, nook, hut, vault, {Label: town.Attic, Slot: 1}, {Label: town.Top}} {
			if (dir+i)%3 != 0 {
				continue
			}
			out = append(out, deed{"Link", func(r api.Realm, s api.State, me api.Me) (api.State, api.Ref, api.Errno) {
				n, slot, e := Link(r, s, me, dir, to)
				return n, api.Ref{Slot: slot}, e
			}})
		}
	}
	for _, name := range []string{"cellar", "loft", "", "No"} {
		out = append(out, deed{"Dig", func(r api.Realm, s api.State, me api.Me) (api.State, api.Ref, api.Errno) { return Dig(r, s, me, name) }})
	}
	return out
}

func TestNothingIsSeenFromElsewhere(t *testing.T) {
	for _, x := range places()[:4] {
		for _, me := range town.Everyone(x.r) {
			for _, d := range deeds() {
				s, _, e := d.do(x.r, x.s, me)
				if e != api.OK {
					continue
				}
				if !state.Right(x.r, s) {
					t.Error(x.name, d.what, me, "may not be")
				}
				for _, from := range town.Sights() {
					if alike := view.Same(x.r, s, x.s, from); alike == town.Sees(x.r, me, from) && !state.Same(s, x.s) {
						t.Error(x.name, d.what, me, from, alike)
					}
				}
			}
		}
	}
}

func TestAlike(t *testing.T) {
	r, s := town.Roomy(), town.Spread()
	for i, from := range town.Sights() {
		other := town.Hidden(r, s, from, i%3 != 0)
		for _, me := range town.Everyone(r) {
			if !town.Sees(r, me, from) {
				continue
			}
			looksAlike(t, r, s, other, me)
			for _, d := range deeds() {
				one, a, e := d.do(r, s, me)
				two, b, f := d.do(r, other, me)
				if e != f || a != b {
					t.Error(d.what, me, from, a, b, e, f)
				}
				if e == api.OK && !view.Same(r, one, two, from) {
					t.Error(d.what, me, from, "is seen")
				}
			}
		}
	}
}

// looksAlike holds against each other what somebody is told in two states.
func looksAlike(t *testing.T, r api.Realm, s, other api.State, me api.Me) {
	t.Helper()
	one, name, ways, e := Look(r, s, me)
	two, called, dirs, f := Look(r, other, me)
	if one != two || name != called || !slices.Equal(ways, dirs) || e != f {
		t.Error("Look", me, one, two, ways, dirs)
	}
	for what, list := range map[string]func(api.Realm, api.State, api.Me) ([]api.Ref, api.Errno){"Who": Who, "Rooms": Rooms} {
		one, e := list(r, s, me)
		two, f := list(r, other, me)
		if !slices.Equal(one, two) || e != f {
			t.Error(what, me, one, two)
		}
	}
}

func TestLongWalk(t *testing.T) {
	r := town.Roomy()
	s := fresh(r)
	all, dice := town.Everyone(r), uint32(7)
	roll := func(n int) int {
		dice = dice*1664525 + 1013904223
		return int(dice>>8) % n
	}
	done := map[string]int{}
	for range 4000 {
		me := all[roll(len(all))]
		known, _ := Rooms(r, s, me)
		to, dir := known[roll(len(known))], roll(api.Dirs)
		var n api.State
		var e api.Errno
		what := []string{"Go", "Go", "Dig", "Link", "Link", "Link", "Close"}[roll(7)]
		switch what {
		case "Go":
			n, _, e = Go(r, s, me, dir)
		case "Dig":
			n, _, e = Dig(r, s, me, "cellar")
		case "Link":
			n, _, e = Link(r, s, me, dir, to)
		case "Close":
			n, e = Close(r, s, me, dir)
		}
		if e != api.OK {
			continue
		}
		done[what]++
		if !state.Right(r, n) {
			t.Fatal(what, me, "may not be")
		}
		s = n
	}
	for _, what := range []string{"Go", "Dig", "Link", "Close"} {
		if done[what] < 10 {
			t.Error("hardly ever", what, done)
		}
	}
}

func TestApart(t *testing.T) {
	r, s := town.Roomy(), town.Spread()
	for _, me := range town.Everyone(r) {
		for _, d := range deeds() {
			n, _, e := d.do(r, s, me)
			if e != api.OK {
				continue
			}
			again, _, _ := d.do(r, s, me)
			kept := state.Clone(again)
			town.Spoil(&n)
			if !state.Same(s, town.Spread()) || !state.Same(again, kept) {
				t.Fatal(d.what, me, "shares")
			}
		}
		one, _, ways, _ := Look(r, s, me)
		for i := range ways {
			ways[i] = 99
		}
		if two, _, _, _ := Look(r, s, me); two != one || !state.Same(s, town.Spread()) {
			t.Fatal("Look shares")
		}
	}
}

func TestBehindTheEnd(t *testing.T) {
	r, s := town.Realm(), town.State()
	// Behind each list's length stands what no one may know.
	for i := range s.Shelves {
		x := &s.Shelves[i]
		x.Rooms = append(slices.Clone(x.Rooms), api.Room{Used: true, Name: "behind"})[:len(x.Rooms)]
		x.Exits = append(slices.Clone(x.Exits), api.Exit{Used: true, Dir: 3})[:len(x.Exits)]
		x.Places = append(slices.Clone(x.Places), plaza)[:len(x.Places)]
	}
	for _, me := range town.Everyone(r) {
		looksAlike(t, r, s, town.State(), me)
		for _, d := range deeds() {
			one, a, e := d.do(r, s, me)
			two, b, f := d.do(r, town.State(), me)
			if a != b || e != f || e == api.OK && !state.Same(one, two) {
				t.Error(d.what, me, a, b, e, f)
			}
		}
	}
	for i, x := range s.Shelves {
		if n := len(x.Rooms); x.Rooms[:n+1][n].Name != "behind" || x.Exits[:len(x.Exits)+1][len(x.Exits)].Dir != 3 {
			t.Error("written behind the end", i)
		}
	}
}
