package goods

import (
	"math"
	"slices"
	"strings"
	"testing"

	"rialto/api"
	"rialto/state"
	"rialto/town"
	"rialto/trial"
)

var (
	plaza = api.Ref{}
	yard  = api.Ref{Slot: 2}
	den   = api.Ref{Label: town.Hall, Slot: 1}
)

// strewn is the roomy town with items in all hands, and in rooms of several labels; some slots are free.
func strewn() trial.World {
	r, s := town.Roomy(), town.Spread()
	for place := range s.Shelves {
		x := &s.Shelves[place]
		for i := range x.Items {
			if x.Items[i].Used || i%5 == 4 {
				continue
			}
			x.Items[i] = api.Item{Used: true, Name: "toy", Kind: api.InHand, Who: i % 3}
			if i%2 == place%2 {
				x.Items[i] = api.Item{Used: true, Name: "leaf", Kind: api.InRoom, At: x.Places[i%3]}
			}
		}
	}
	// Two of them in one room, on one shelf.
	s.Shelves[town.Bottom].Places[town.Carol] = yard
	return trial.World{Name: "strewn", Realm: r, State: s}
}

func worlds() []trial.World { return append(trial.Worlds(), strewn()) }

// at is somebody of the town who acts.
func at(line, who int) api.Me {
	return api.Me{Line: line, Label: town.Roomy().Lines[line], Who: who}
}

// numbers are slots that there are, and that there are not.
func numbers() []int {
	out := []int{math.MinInt, math.MinInt32, -256, -12, -2, 127, 128, 255, 256, 1 << 32, math.MaxInt}
	for i := -1; i <= api.MaxSlots; i++ {
		out = append(out, i)
	}
	return out
}

// below tells anew whether the label of a place is at or below that of another one.
func below(r api.Realm, i, j int) bool {
	a, b := r.Labels[i], r.Labels[j]
	return a.Level <= b.Level && a.Comps&^b.Comps == 0
}

// mine is one's place.
func mine(s api.State, me api.Me) api.Ref { return s.Shelves[me.Label].Places[me.Who] }

// inHand tells anew whether there is an item at a slot of one's shelf, in one's hand.
func inHand(s api.State, me api.Me, i int) bool {
	l := s.Shelves[me.Label].Items
	return i >= 0 && i < len(l) && l[i].Used && l[i].Kind == 1 && l[i].Who == me.Who
}

// nearby tells anew whether there is an item at a slot of one's shelf, which lies at one's place.
func nearby(s api.State, me api.Me, i int) bool {
	l := s.Shelves[me.Label].Items
	return i >= 0 && i < len(l) && l[i].Used && l[i].Kind == 2 && l[i].At == mine(s, me)
}

// came holds what was answered against an error, or against the old state, in which a slot of the shelf is another one.
func came(t *testing.T, what string, x trial.World, me api.Me, i int, item api.Item, got api.State, e, want api.Errno) {
	t.Helper()
	if e != want || (e != api.OK) != trial.Nothing(got) {
		t.Error(x.Name, what, me, i, e, "- want", want)
		return
	}
	if e != api.OK {
		return
	}
	s := state.Clone(x.State)
	s.Shelves[me.Label].Items[i] = item
	if !state.Same(got, s) || !state.Right(x.Realm, got) {
		t.Error(x.Name, what, me, i, "is another state")
	}
}

// okIf is api.OK, or another error.
func okIf(holds bool, e api.Errno) api.Errno {
	if holds {
		return api.OK
	}
	return e
}

// all tells whether all errors were met.
func all(t *testing.T, what string, met map[api.Errno]int, want ...api.Errno) {
	t.Helper()
	for _, e := range want {
		if met[e] == 0 {
			t.Error(what, "never", e)
		}
	}
	if len(met) != len(want) {
		t.Error(what, "others", met)
	}
}

// P29.1

func TestMake(t *testing.T) {
	met := map[api.Errno]int{}
	for _, x := range worlds() {
		for _, me := range town.Everyone(x.Realm) {
			free := slices.IndexFunc(x.State.Shelves[me.Label].Items, func(y api.Item) bool { return !y.Used })
			for _, name := range []string{"a", "lamp", "toy", "rialto2", strings.Repeat("z", 12)} {
				s, slot, e := Make(x.Realm, x.State, me, name)
				met[e]++
				if slot != max(free, 0) {
					t.Error(x.Name, me, name, slot)
				}
				came(t, "Make", x, me, free, api.Item{Used: true, Name: name, Kind: api.InHand, Who: me.Who}, s, e, okIf(free >= 0, api.ErrFull))
			}
			// That it is no name stands ahead of that no slot is free.
			for _, name := range []string{"", "A", "2a", " a", "a ", "a b", "é", "a\n", "a-b", strings.Repeat("z", 13)} {
				if s, slot, e := Make(x.Realm, x.State, me, name); e != api.ErrForm || slot != 0 || !trial.Nothing(s) {
					t.Error(x.Name, me, name, slot, e)
				}
			}
		}
	}
	all(t, "Make", met, api.OK, api.ErrFull)
}

func TestMakeTillFull(t *testing.T) {
	x := trial.Fresh("new", town.Realm())
	r, s := x.Realm, x.State
	for line, slots := range []int{4, 3, 12, 1, 2} {
		for i := range slots {
			n, slot, e := Make(r, s, at(line, i%3), "lamp")
			if slot != i || e != api.OK {
				t.Fatal(line, i, slot, e)
			}
			s = n
		}
		if n, slot, e := Make(r, s, at(line, 0), "lamp"); e != api.ErrFull || slot != 0 || !trial.Nothing(n) {
			t.Error(line, "full", slot, e)
		}
		if n, _, e := Make(r, s, at(line, 0), "No"); e != api.ErrForm || !trial.Nothing(n) {
			t.Error(line, "no name, ahead of full", e)
		}
	}
	// A slot that is free again is the next one.
	s, e := Scrap(r, s, at(0, 1), 1)
	if e != api.OK {
		t.Fatal(e)
	}
	if _, slot, e := Make(r, s, at(5, 2), "rope"); slot != 1 || e != api.OK {
		t.Error("free again", slot, e)
	}
}

func TestScrap(t *testing.T) {
	met := map[api.Errno]int{}
	for _, x := range worlds() {
		for _, me := range town.Everyone(x.Realm) {
			for _, i := range numbers() {
				s, e := Scrap(x.Realm, x.State, me, i)
				met[e]++
				came(t, "Scrap", x, me, i, api.Item{}, s, e, okIf(inHand(x.State, me, i), api.ErrNone))
			}
		}
	}
	all(t, "Scrap", met, api.OK, api.ErrNone)
}

func TestDrop(t *testing.T) {
	met := map[api.Errno]int{}
	for _, x := range worlds() {
		for _, me := range town.Everyone(x.Realm) {
			for _, i := range numbers() {
				s, e := Drop(x.Realm, x.State, me, i)
				met[e]++
				var item api.Item
				if inHand(x.State, me, i) {
					item = api.Item{Used: true, Name: x.State.Shelves[me.Label].Items[i].Name, Kind: api.InRoom, At: mine(x.State, me)}
				}
				came(t, "Drop", x, me, i, item, s, e, okIf(item.Used, api.ErrNone))
			}
		}
	}
	all(t, "Drop", met, api.OK, api.ErrNone)
}

func TestTake(t *testing.T) {
	met := map[api.Errno]int{}
	for _, x := range worlds() {
		for _, me := range town.Everyone(x.Realm) {
			for _, i := range numbers() {
				s, e := Take(x.Realm, x.State, me, i)
				met[e]++
				var item api.Item
				if nearby(x.State, me, i) {
					item = api.Item{Used: true, Name: x.State.Shelves[me.Label].Items[i].Name, Kind: api.InHand, Who: me.Who}
				}
				came(t, "Take", x, me, i, item, s, e, okIf(item.Used, api.ErrNone))
			}
		}
	}
	all(t, "Take", met, api.OK, api.ErrNone)
}

// passed is what Pass answers, worked out anew.
func passed(x trial.World, me api.Me, i, who int) api.Errno {
	switch {
	case who < 0 || who >= len(x.Realm.Accounts) || who == me.Who:
		return api.ErrArg
	case !inHand(x.State, me, i):
		return api.ErrNone
	}
	return okIf(x.State.Shelves[me.Label].Places[who] == mine(x.State, me), api.ErrDenied)
}

func TestPass(t *testing.T) {
	met := map[api.Errno]int{}
	for _, x := range worlds() {
		for _, me := range town.Everyone(x.Realm) {
			for _, i := range numbers() {
				for j, who := range []int{0, 1, 2, math.MinInt, -256, -1, 3, 7, 8, 127, 128, 256, 1 << 32, math.MaxInt} {
					// Of those that are no account a few are tried at each slot.
					if j > 2 && (i+j)%5 != 0 {
						continue
					}
					s, e := Pass(x.Realm, x.State, me, i, who)
					met[e]++
					want, item := passed(x, me, i, who), api.Item{}
					if want == api.OK {
						item = api.Item{Used: true, Name: x.State.Shelves[me.Label].Items[i].Name, Kind: api.InHand, Who: who}
					}
					came(t, "Pass", x, me, i, item, s, e, want)
				}
			}
		}
	}
	all(t, "Pass", met, api.OK, api.ErrArg, api.ErrNone, api.ErrDenied)
}

func TestByHand(t *testing.T) {
	r, s := town.Realm(), town.State()
	for _, x := range []struct {
		what string
		do   func(me api.Me) (api.State, api.Errno)
		me   api.Me
		e    api.Errno
	}{
		{"scrap the lamp", scrap(0), at(0, town.Bob), api.OK},
		{"at another line of the label", scrap(0), at(5, town.Bob), api.OK},
		{"scrap another's", scrap(0), at(0, town.Alice), api.ErrNone},
		{"what lies there is not scrapped", scrap(1), at(0, town.Bob), api.ErrNone},
		{"a free slot", scrap(2), at(0, town.Alice), api.ErrNone},
		{"what a trade holds, of the slot that is called as one is", scrap(3), at(0, town.Bob), api.ErrNone},
		{"by who gave it", scrap(3), at(0, town.Carol), api.ErrNone},
		{"from the hall, where another thing stands at the slot", scrap(0), at(1, town.Bob), api.ErrNone},
		{"what is wanted of a trade", scrap(0), at(3, town.Alice), api.OK},
		{"drop the lamp", drop(0), at(0, town.Bob), api.OK},
		{"drop what lies there", drop(1), at(0, town.Bob), api.ErrNone},
		{"drop what a trade holds", drop(1), at(4, town.Alice), api.ErrNone},
		{"drop in a room of a label below", drop(2), at(1, town.Carol), api.OK},
		{"take the rope", take(1), at(0, town.Bob), api.OK},
		{"take the rope from another room", take(1), at(0, town.Alice), api.ErrNone},
		{"take what one has", take(0), at(0, town.Bob), api.ErrNone},
		{"take what a trade holds", take(3), at(0, town.Alice), api.ErrNone},
		{"the rope of the bottom is not taken from the hall", take(1), at(1, town.Alice), api.ErrNone},
		{"a thing of the hall, in the plaza", take(0), at(1, town.Carol), api.OK},
		{"a thing of the top, in the den", take(6), at(2, town.Carol), api.OK},
		{"a thing of the hall, by the slot, from the top", take(1), at(2, town.Carol), api.ErrNone},
		{"pass to where one is not", pass(0, town.Alice), at(0, town.Bob), api.ErrDenied},
		{"pass to oneself", pass(0, town.Bob), at(0, town.Bob), api.ErrArg},
		{"pass to nobody, what one has not", pass(2, 3), at(0, town.Bob), api.ErrArg},
		{"pass to oneself, what one has not", pass(2, town.Bob), at(0, town.Bob), api.ErrArg},
		{"pass what one has not, to where one is not", pass(1, town.Alice), at(0, town.Bob), api.ErrNone},
		{"their places on other shelves do not count", pass(0, town.Carol), at(3, town.Alice), api.ErrDenied},
	} {
		n, e := x.do(x.me)
		if e != x.e || (e != api.OK) != trial.Nothing(n) {
			t.Error(x.what, e)
		}
	}
	// In the plaza, on the shelf of the bottom, all of them are there.
	s.Shelves[town.Bottom].Places = []api.Ref{plaza, plaza, plaza}
	if n, e := Pass(r, s, at(0, town.Bob), 0, town.Carol); e != api.OK || n.Shelves[0].Items[0] != (api.Item{Used: true, Name: "lamp", Kind: 1, Who: town.Carol}) {
		t.Error("to carol", e)
	}
	s.Shelves[town.Bottom].Places = []api.Ref{plaza, plaza, yard}
	if _, e := Pass(r, s, at(0, town.Bob), 0, town.Carol); e != api.ErrDenied {
		t.Error("carol is in the yard", e)
	}
}

// What is done with slots of the town's state.

func scrap(i int) func(me api.Me) (api.State, api.Errno) {
	return func(me api.Me) (api.State, api.Errno) { return Scrap(town.Realm(), town.State(), me, i) }
}

func drop(i int) func(me api.Me) (api.State, api.Errno) {
	return func(me api.Me) (api.State, api.Errno) { return Drop(town.Realm(), town.State(), me, i) }
}

func take(i int) func(me api.Me) (api.State, api.Errno) {
	return func(me api.Me) (api.State, api.Errno) { return Take(town.Realm(), town.State(), me, i) }
}

func pass(i, who int) func(me api.Me) (api.State, api.Errno) {
	return func(me api.Me) (api.State, api.Errno) { return Pass(town.Realm(), town.State(), me, i, who) }
}

// P29.2

func TestBag(t *testing.T) {
	for _, x := range []struct {
		me api.Me
		l  []int
	}{
		{at(0, town.Alice), nil},
		{at(0, town.Bob), []int{0}},
		{at(5, town.Bob), []int{0}},
		{at(0, town.Carol), nil},
		{at(1, town.Bob), nil},
		{at(1, town.Carol), []int{2}},
		{at(3, town.Alice), []int{0}},
		{at(2, town.Alice), []int{0}},
		{at(4, town.Alice), nil},
	} {
		if l, e := Bag(town.Realm(), town.State(), x.me); !slices.Equal(l, x.l) || e != api.OK {
			t.Error(x.me, l, e)
		}
	}
	most := 0
	for _, x := range worlds() {
		for _, me := range town.Everyone(x.Realm) {
			var want []int
			for i := range x.State.Shelves[me.Label].Items {
				if inHand(x.State, me, i) {
					want = append(want, i)
				}
			}
			most = max(most, len(want))
			if l, e := Bag(x.Realm, x.State, me); !slices.Equal(l, want) || e != api.OK {
				t.Error(x.Name, me, l, want, e)
			}
		}
	}
	if most != api.MaxSlots {
		t.Error("never all", most)
	}
}

func TestThings(t *testing.T) {
	for _, x := range []struct {
		me api.Me
		l  []api.Ref
	}{
		{at(0, town.Alice), nil},
		{at(0, town.Bob), []api.Ref{{Slot: 1}}},
		{at(1, town.Alice), []api.Ref{{Slot: 1}}},
		{at(1, town.Bob), []api.Ref{{Label: town.Hall, Slot: 1}}},
		{at(1, town.Carol), []api.Ref{{Label: town.Hall}}},
		{at(3, town.Bob), nil},
		{at(3, town.Carol), []api.Ref{{Slot: 1}}},
		{at(4, town.Alice), []api.Ref{{Label: town.Attic}}},
		{at(4, town.Bob), []api.Ref{{Label: town.Hall, Slot: 1}}},
		{at(4, town.Carol), []api.Ref{{Label: town.Hall}}},
		{at(2, town.Alice), []api.Ref{{Label: town.Top, Slot: 5}}},
		{at(2, town.Bob), nil},
		{at(2, town.Carol), []api.Ref{{Label: town.Hall, Slot: 1}, {Label: town.Top, Slot: 6}}},
	} {
		if l, e := Things(town.Realm(), town.State(), x.me); !slices.Equal(l, x.l) || e != api.OK {
			t.Error(x.me, l, e)
		}
	}
	for _, x := range worlds() {
		for _, me := range town.Everyone(x.Realm) {
			var want []api.Ref
			for place, shelf := range x.State.Shelves {
				for slot, item := range shelf.Items {
					if below(x.Realm, place, me.Label) && item.Used && item.Kind == 2 && item.At == mine(x.State, me) {
						want = append(want, api.Ref{Label: place, Slot: slot})
					}
				}
			}
			if l, e := Things(x.Realm, x.State, me); !slices.Equal(l, want) || e != api.OK {
				t.Error(x.Name, me, l, want, e)
			}
		}
	}
}

func TestThingsOfAll(t *testing.T) {
	x := trial.Fresh("new", town.Roomy())
	// In the plaza two things of each label lie, made from the greatest one down.
	for place := len(x.State.Shelves) - 1; place >= 0; place-- {
		for _, slot := range []int{9, 3} {
			x.State.Shelves[place].Items[slot] = api.Item{Used: true, Name: "leaf", Kind: api.InRoom}
		}
	}
	for line, places := range [][]int{{0}, {0, 1}, {0, 1, 2, 3, 4, 5}, {0, 2}, {0, 1, 3, 4}, {0}, {0, 3}, {0, 1, 3, 4}} {
		var want []api.Ref
		for _, place := range places {
			want = append(want, api.Ref{Label: place, Slot: 3}, api.Ref{Label: place, Slot: 9})
		}
		if l, e := Things(x.Realm, x.State, at(line, town.Carol)); !slices.Equal(l, want) || e != api.OK {
			t.Error(line, l, e)
		}
	}
}

func TestExample(t *testing.T) {
	x := trial.Fresh("new", town.Realm())
	r, me := x.Realm, at(1, town.Bob)
	s, slot, e := Make(r, x.State, me, "lamp")
	if l, _ := Bag(r, s, me); slot != 0 || e != api.OK || !slices.Equal(l, []int{0}) {
		t.Fatal("Make", slot, e, l)
	}
	if l, _ := Things(r, s, me); len(l) != 0 {
		t.Error("it lies there", l)
	}
	s, e = Drop(r, s, me, slot)
	if l, _ := Things(r, s, me); e != api.OK || !slices.Equal(l, []api.Ref{{Label: town.Hall}}) {
		t.Error("Drop", e, l)
	}
	if l, _ := Bag(r, s, me); len(l) != 0 {
		t.Error("it is in hand", l)
	}
	// Who is there, at the hall, takes it, and hands it over.
	s, e = Take(r, s, at(1, town.Carol), slot)
	if l, _ := Bag(r, s, at(1, town.Carol)); e != api.OK || !slices.Equal(l, []int{0}) {
		t.Error("Take", e, l)
	}
	s, e = Pass(r, s, at(1, town.Carol), slot, town.Alice)
	if l, _ := Bag(r, s, at(1, town.Alice)); e != api.OK || !slices.Equal(l, []int{0}) {
		t.Error("Pass", e, l)
	}
	if s, e = Scrap(r, s, at(1, town.Alice), slot); e != api.OK || !state.Same(s, x.State) {
		t.Error("Scrap", e)
	}
}

// P29.3 and P29.4, and errors

// deeds are things that are done with items, and asked of them.
func deeds() []trial.Deed {
	type form = func(r api.Realm, s api.State, me api.Me) (api.State, []int, api.Errno)
	quiet := func(f func(r api.Realm, s api.State, me api.Me, i int) (api.State, api.Errno), i int) form {
		return func(r api.Realm, s api.State, me api.Me) (api.State, []int, api.Errno) {
			n, e := f(r, s, me, i)
			return n, nil, e
		}
	}
	out := []trial.Deed{
		{What: "Bag", Do: func(r api.Realm, s api.State, me api.Me) (api.State, []int, api.Errno) {
			l, e := Bag(r, s, me)
			return api.State{}, l, e
		}},
		{What: "Things", Do: func(r api.Realm, s api.State, me api.Me) (api.State, []int, api.Errno) {
			l, e := Things(r, s, me)
			var told []int
			for _, at := range l {
				told = append(told, at.Label, at.Slot)
			}
			return api.State{}, told, e
		}},
	}
	for _, name := range []string{"lamp", "", "No"} {
		out = append(out, trial.Deed{What: "Make " + name, Do: func(r api.Realm, s api.State, me api.Me) (api.State, []int, api.Errno) {
			n, slot, e := Make(r, s, me, name)
			if e != api.OK && slot == 0 {
				return n, nil, e
			}
			return n, []int{slot}, e
		}})
	}
	for _, i := range []int{-1, 0, 1, 2, 3, 5, 6, 7, 12} {
		out = append(out, trial.Deed{What: "Scrap", Do: quiet(Scrap, i)}, trial.Deed{What: "Drop", Do: quiet(Drop, i)}, trial.Deed{What: "Take", Do: quiet(Take, i)})
		for who := (i + 3) % 2; who < 5; who += 2 {
			pass := func(r api.Realm, s api.State, me api.Me, i int) (api.State, api.Errno) { return Pass(r, s, me, i, who) }
			out = append(out, trial.Deed{What: "Pass", Do: quiet(pass, i)})
		}
	}
	return out
}

func TestRefused(t *testing.T) {
	for _, fault := range trial.Refused(deeds()) {
		t.Error(fault)
	}
}

func TestNothingIsSeenFromElsewhere(t *testing.T) {
	for _, x := range append(worlds()[:4], strewn()) {
		for _, fault := range trial.Wrong(deeds(), x) {
			t.Error(fault)
		}
	}
}

func TestAlike(t *testing.T) {
	for _, fault := range trial.Unlike(deeds(), strewn()) {
		t.Error(fault)
	}
}

func TestApart(t *testing.T) {
	for _, fault := range append(trial.Shared(deeds(), strewn()), trial.Behind(deeds())...) {
		t.Error(fault)
	}
}

// count is how many items there are.
func count(s api.State) int {
	n := 0
	for _, x := range s.Shelves {
		for _, item := range x.Items {
			if item.Used {
				n++
			}
		}
	}
	return n
}

func TestLongDay(t *testing.T) {
	x := trial.Fresh("new", town.Roomy())
	for place, l := range map[int][]api.Room{0: {{Used: true, Name: "plaza"}, {}, {Used: true, Name: "yard"}}, town.Hall: {{}, {Used: true, Name: "den"}}} {
		copy(x.State.Shelves[place].Rooms, l)
	}
	r, s := x.Realm, x.State
	everyone, dice := town.Everyone(r), uint32(5)
	roll := func(n int) int {
		dice = dice*1664525 + 1013904223
		return int(dice>>8) % n
	}
	done, more := map[string]int{}, map[string]int{"Make": 1, "Scrap": -1}
	for range 3000 {
		me, i, who := everyone[roll(len(everyone))], roll(api.MaxSlots), roll(3)
		places := []api.Ref{plaza, yard, den}
		if !below(r, town.Hall, me.Label) {
			places = places[:2]
		}
		s.Shelves[me.Label].Places[me.Who] = places[roll(len(places))]
		var n api.State
		var e api.Errno
		what := []string{"Make", "Make", "Drop", "Take", "Pass", "Scrap"}[roll(6)]
		switch what {
		case "Make":
			n, _, e = Make(r, s, me, "lamp")
		case "Drop":
			n, e = Drop(r, s, me, i)
		case "Take":
			n, e = Take(r, s, me, i)
		case "Pass":
			n, e = Pass(r, s, me, i, who)
		case "Scrap":
			n, e = Scrap(r, s, me, i)
		}
		if e != api.OK {
			continue
		}
		done[what]++
		if !state.Right(r, n) || count(n) != count(s)+more[what] {
			t.Fatal(what, me, "may not be")
		}
		s = n
	}
	for _, what := range []string{"Make", "Drop", "Take", "Pass", "Scrap"} {
		if done[what] < 20 {
			t.Error("hardly ever", what, done)
		}
	}
}
