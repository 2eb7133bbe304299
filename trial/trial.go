// Package trial holds what somebody does in a world against what layers 28 to 33 promise of all that is done there: what the tests of these layers share.
package trial

import (
	"slices"
	"strconv"

	"rialto/api"
	"rialto/state"
	"rialto/town"
	"rialto/view"
)

// Deed is something that somebody does, or asks: what comes of it (nothing, where they ask), what it tells, and its error.
type Deed struct {
	What string
	Do   func(r api.Realm, s api.State, me api.Me) (api.State, []int, api.Errno)
}

// World is a realm, and a state of it that may be.
type World struct {
	Name  string
	Realm api.Realm
	State api.State
}

// Worlds is worlds of the town, small and great, new ones, and some in which what is hidden from a label is another thing.
func Worlds() []World {
	out := []World{
		{"town", town.Realm(), town.State()},
		{"roomy", town.Roomy(), town.Spread()},
		Fresh("least", town.Least()),
		Fresh("new", town.Roomy()),
	}
	for i, from := range town.Sights() {
		if i%8 == 0 {
			out = append(out, World{"hidden " + strconv.Itoa(i), town.Roomy(), town.Hidden(town.Roomy(), town.Spread(), from, i%16 == 0)})
		}
	}
	return out
}

// Fresh is a realm with its new state.
func Fresh(name string, r api.Realm) World {
	s, _ := state.New(r)
	return World{name, r, s}
}

// Nothing tells whether a state is the zero value.
func Nothing(s api.State) bool { return state.Same(s, api.State{}) }

// Refused tells the deeds that answer another thing than api.ErrArg alone to somebody who may not act, or in a state that may not be.
func Refused(all []Deed) []string {
	var out []string
	ask := func(r api.Realm, s api.State, me api.Me) {
		for _, d := range all {
			if n, told, e := d.Do(r, s, me); e != api.ErrArg || len(told) != 0 || !Nothing(n) {
				out = append(out, d.by(me)+" is not refused")
			}
		}
	}
	for _, x := range Worlds()[:4] {
		for _, me := range town.Nobody(x.Realm) {
			ask(x.Realm, x.State, me)
		}
	}
	some := []api.Me{{}, {Line: -1}, {Line: 1, Label: town.Hall, Who: town.Bob}, {Line: 2, Label: town.Top}, {Line: 4, Label: town.Attic, Who: town.Carol}}
	for _, r := range town.Wrong() {
		for _, me := range some {
			ask(r, town.State(), me)
			ask(r, api.State{}, me)
		}
	}
	for _, s := range town.Faulty(town.Spread()) {
		for _, me := range some {
			ask(town.Roomy(), s, me)
		}
	}
	ask(town.Realm(), town.Spread(), api.Me{})
	ask(town.Roomy(), town.State(), api.Me{})
	return out
}

// Wrong tells the deeds of which a state comes that may not be, one beside an error, or one that is seen to be another one from a label that theirs is not at or below.
func Wrong(all []Deed, x World) []string {
	var out []string
	fault := func(d Deed, me api.Me, what string) { out = append(out, x.Name+": "+d.by(me)+what) }
	for _, me := range town.Everyone(x.Realm) {
		for _, d := range all {
			n, told, e := d.Do(x.Realm, x.State, me)
			if e != api.OK {
				if len(told) != 0 || !Nothing(n) {
					fault(d, me, " is done, with an error")
				}
				continue
			}
			if Nothing(n) {
				continue
			}
			if !state.Right(x.Realm, n) {
				fault(d, me, " comes to what may not be")
			}
			for _, from := range town.Sights() {
				if !town.Sees(x.Realm, me, from) && !view.Same(x.Realm, n, x.State, from) {
					fault(d, me, " is seen")
				}
			}
		}
	}
	return out
}

// Unlike tells the deeds that answer other things in a world and in one that is seen alike from a label that theirs is at or below, or of which comes what is not seen alike from there.
func Unlike(all []Deed, x World) []string {
	var out []string
	others := unlike(x)
	for _, me := range town.Everyone(x.Realm) {
		for _, d := range all {
			one, told, e := d.Do(x.Realm, x.State, me)
			for _, y := range others {
				if !town.Sees(x.Realm, me, y.from) {
					continue
				}
				two, again, f := d.Do(x.Realm, y.State, me)
				if e != f || !slices.Equal(told, again) || Nothing(one) != Nothing(two) {
					out = append(out, d.by(me)+" is answered otherwise")
				} else if !Nothing(one) && !view.Same(x.Realm, one, two, y.from) {
					out = append(out, d.by(me)+" comes to what is seen otherwise")
				}
			}
		}
	}
	return out
}

// alike is a world that is seen as another one from a label.
type alike struct {
	World
	from api.Label
}

// unlike is worlds in which all is another thing that is not seen from a label: two for each label from which others are seen than from those ahead of it.
func unlike(x World) []alike {
	var out []alike
	known := map[string]int{}
	for _, from := range town.Sights() {
		sees := ""
		for place := range x.Realm.Labels {
			sees += strconv.FormatBool(town.Sees(x.Realm, api.Me{Label: place}, from))
		}
		if known[sees]++; known[sees] == 1 {
			for _, full := range []bool{false, true} {
				out = append(out, alike{World{x.Name, x.Realm, town.Hidden(x.Realm, x.State, from, full)}, from})
			}
		}
	}
	return out
}

// Shared tells the deeds that change what they are handed, or hand out memory that is changed with another one.
func Shared(all []Deed, x World) []string {
	var out []string
	kept := state.Clone(x.State)
	for _, me := range town.Everyone(x.Realm) {
		for _, d := range all {
			one, told, _ := d.Do(x.Realm, x.State, me)
			two, again, _ := d.Do(x.Realm, x.State, me)
			was, said := state.Clone(two), slices.Clone(again)
			town.Spoil(&one)
			for i := range told {
				told[i] = -99
			}
			if !state.Same(x.State, kept) || !state.Same(two, was) || !slices.Equal(again, said) {
				out = append(out, d.by(me)+" shares")
				x.State = state.Clone(kept)
			}
		}
	}
	return out
}

// Behind tells the deeds that read, or write, what stands behind the end of a list of the town's state.
func Behind(all []Deed) []string {
	var out []string
	r := town.Roomy()
	for _, me := range town.Everyone(r) {
		for _, d := range all {
			s := town.Spread()
			lay(&s)
			one, told, e := d.Do(r, s, me)
			two, want, f := d.Do(r, town.Spread(), me)
			if e != f || !slices.Equal(told, want) || !state.Same(one, two) {
				out = append(out, d.by(me)+" reads behind the end")
			}
			if !lies(s) {
				out = append(out, d.by(me)+" writes behind the end")
			}
		}
	}
	return out
}

// by is the name of a deed by somebody.
func (d Deed) by(me api.Me) string {
	return d.What + " at line " + strconv.Itoa(me.Line) + " by " + strconv.Itoa(me.Who)
}

// behind is what stands behind the end of a shelf's lists.
func behind() api.Shelf {
	return api.Shelf{
		Rooms:  []api.Room{{Used: true, Name: "behind"}},
		Exits:  []api.Exit{{Used: true, Dir: 3}},
		Items:  []api.Item{{Used: true, Name: "behind", Kind: api.InRoom}},
		Mails:  []api.Mail{{Used: true, Text: "behind"}},
		Trades: []api.Trade{{Used: true, B: 1, Give: api.Part{Item: -1}, Want: api.Part{Amount: 1, Item: -1}}},
		Purses: [][api.Coins]uint64{{5, 5, 5, 5}},
		Places: []api.Ref{{Slot: 2}},
	}
}

// lay puts something behind the end of each list of all shelves.
func lay(s *api.State) {
	y := behind()
	for i := range s.Shelves {
		x := &s.Shelves[i]
		x.Rooms, x.Exits, x.Items = hidden(x.Rooms, y.Rooms), hidden(x.Exits, y.Exits), hidden(x.Items, y.Items)
		x.Mails, x.Trades = hidden(x.Mails, y.Mails), hidden(x.Trades, y.Trades)
		x.Purses, x.Places = hidden(x.Purses, y.Purses), hidden(x.Places, y.Places)
	}
}

// lies tells whether it is there still.
func lies(s api.State) bool {
	y := behind()
	return !slices.ContainsFunc(s.Shelves, func(x api.Shelf) bool {
		return !ends(x.Rooms, y.Rooms) || !ends(x.Exits, y.Exits) || !ends(x.Items, y.Items) || !ends(x.Mails, y.Mails) ||
			!ends(x.Trades, y.Trades) || !ends(x.Purses, y.Purses) || !ends(x.Places, y.Places)
	})
}

// hidden is a list with others behind its end.
func hidden[T any](l, more []T) []T { return slices.Concat(l, more)[:len(l)] }

// ends tells whether these others stand behind the end of a list.
func ends[T comparable](l, more []T) bool {
	return slices.Equal(l[len(l):len(l)+len(more)], more)
}
