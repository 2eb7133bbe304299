package trial

import (
	"slices"
	"testing"

	"rialto/api"
	"rialto/realm"
	"rialto/state"
	"rialto/town"
)

// do is the form of all deeds.
type do = func(r api.Realm, s api.State, me api.Me) (api.State, []int, api.Errno)

// move is a deed that keeps all promises: one's place is the plaza.
func move(r api.Realm, s api.State, me api.Me) (api.State, []int, api.Errno) {
	if !state.IsMe(r, s, me) {
		return api.State{}, nil, api.ErrArg
	}
	s = state.Clone(s)
	s.Shelves[me.Label].Places[me.Who] = api.Ref{}
	return s, []int{0, 0}, api.OK
}

// ask is another one, that only tells something.
func ask(r api.Realm, s api.State, me api.Me) (api.State, []int, api.Errno) {
	if !state.IsMe(r, s, me) {
		return api.State{}, nil, api.ErrArg
	}
	return api.State{}, []int{s.Shelves[me.Label].Places[me.Who].Slot}, api.OK
}

// faults is what all trials tell of one deed.
func faults(f do) [5]bool {
	all := []Deed{{"it", f}}
	// A new one for each trial: the deed may spoil it.
	roomy := func() World { return World{"roomy", town.Roomy(), town.Spread()} }
	return [5]bool{len(Refused(all)) > 0, len(Wrong(all, roomy())) > 0, len(Unlike(all, roomy())) > 0, len(Shared(all, roomy())) > 0, len(Behind(all)) > 0}
}

// spoilt is a deed that does another thing with what comes of the one that keeps all.
func spoilt(f func(r api.Realm, was, s api.State, me api.Me) (api.State, []int, api.Errno)) do {
	return func(r api.Realm, s api.State, me api.Me) (api.State, []int, api.Errno) {
		n, told, e := move(r, s, me)
		if e != api.OK {
			return n, told, e
		}
		return f(r, s, n, me)
	}
}

func TestKept(t *testing.T) {
	for what, f := range map[string]do{"move": move, "ask": ask} {
		if got := faults(f); got != [5]bool{} {
			t.Error(what, got)
		}
	}
	for _, x := range Worlds() {
		if !state.Right(x.Realm, x.State) {
			t.Error(x.Name, "may not be")
		}
		if l := slices.Concat(Wrong([]Deed{{"move", move}}, x), Shared([]Deed{{"move", move}, {"ask", ask}}, x)); len(l) > 0 {
			t.Error(x.Name, l)
		}
	}
}

func TestBroken(t *testing.T) {
	refused, wrong, unlike, shared, behind := 0, 1, 2, 3, 4
	for what, x := range map[string]struct {
		f  do
		at int
	}{
		"anybody may": {func(api.Realm, api.State, api.Me) (api.State, []int, api.Errno) { return api.State{}, nil, api.OK }, refused},
		"told beside an error": {func(r api.Realm, s api.State, me api.Me) (api.State, []int, api.Errno) {
			_, told, e := ask(r, s, me)
			return api.State{}, append(told, 1), e
		}, refused},
		"told beside another error": {spoilt(func(_ api.Realm, _, n api.State, _ api.Me) (api.State, []int, api.Errno) {
			return api.State{}, []int{1}, api.ErrNone
		}), wrong},
		"a state beside an error": {spoilt(func(_ api.Realm, _, n api.State, _ api.Me) (api.State, []int, api.Errno) {
			return n, nil, api.ErrNone
		}), wrong},
		"a state that may not be": {spoilt(func(_ api.Realm, _, n api.State, me api.Me) (api.State, []int, api.Errno) {
			n.Shelves[me.Label].Minted[2]++
			return n, nil, api.OK
		}), wrong},
		"what is below changes": {spoilt(func(_ api.Realm, _, n api.State, me api.Me) (api.State, []int, api.Errno) {
			n.Shelves[town.Bottom].Places[town.Bob] = api.Ref{}
			return n, nil, api.OK
		}), wrong},
		"what is beside changes": {spoilt(func(_ api.Realm, _, n api.State, me api.Me) (api.State, []int, api.Errno) {
			n.Shelves[town.Club].Places[town.Carol] = api.Ref{}
			return n, nil, api.OK
		}), wrong},
		"what is above is told": {func(r api.Realm, s api.State, me api.Me) (api.State, []int, api.Errno) {
			n, told, e := ask(r, s, me)
			if e == api.OK {
				told[0] += s.Shelves[town.Top].Places[town.Alice].Slot
			}
			return n, told, e
		}, unlike},
		"what is above is an error": {func(r api.Realm, s api.State, me api.Me) (api.State, []int, api.Errno) {
			n, told, e := ask(r, s, me)
			if e == api.OK && s.Sessions[2] < 0 {
				return api.State{}, nil, api.ErrFull
			}
			return n, told, e
		}, unlike},
		"what is above comes down": {spoilt(func(_ api.Realm, s, n api.State, me api.Me) (api.State, []int, api.Errno) {
			n.Shelves[me.Label].Rooms[11] = api.Room{Used: s.Shelves[town.Top].Rooms[1].Used && s.Shelves[town.Top].Rooms[1].Name == "vault", Name: "vault"}
			return n, nil, api.OK
		}), unlike},
		"handed on": {spoilt(func(_ api.Realm, s, n api.State, me api.Me) (api.State, []int, api.Errno) {
			n.Shelves[town.Bottom].Items = s.Shelves[town.Bottom].Items
			return n, nil, api.OK
		}), shared},
		"written": {spoilt(func(_ api.Realm, s, n api.State, me api.Me) (api.State, []int, api.Errno) {
			s.Shelves[me.Label].Purses[me.Who][0]++
			return n, nil, api.OK
		}), shared},
		"read behind the end": {spoilt(func(_ api.Realm, s, n api.State, me api.Me) (api.State, []int, api.Errno) {
			l := s.Shelves[me.Label].Purses
			return n, []int{int(l[:cap(l)][cap(l)-1][0])}, api.OK
		}), behind},
		"written behind the end": {spoilt(func(_ api.Realm, s, n api.State, me api.Me) (api.State, []int, api.Errno) {
			_ = append(s.Shelves[me.Label].Items, api.Item{})
			return n, nil, api.OK
		}), behind},
	} {
		if got := faults(x.f); !got[x.at] {
			t.Error(what, "is not found", got)
		}
	}
}

func TestNothing(t *testing.T) {
	if !Nothing(api.State{}) || !Nothing(api.State{Shelves: []api.Shelf{}, Sessions: []int{}}) {
		t.Error("nothing is something")
	}
	for _, s := range []api.State{town.State(), {Round: 1}, {Shelves: make([]api.Shelf, 1)}, {Ranks: make([][]int, 1)}, {Sessions: []int{0}}} {
		if Nothing(s) {
			t.Error("something is nothing", s)
		}
	}
}

func TestWorlds(t *testing.T) {
	least, l := false, Worlds()
	for i, x := range l {
		least = least || len(x.Realm.Labels) == 1
		if !realm.Right(x.Realm) || slices.ContainsFunc(l[:i], func(y World) bool { return y.Name == x.Name }) {
			t.Error(x.Name)
		}
	}
	if !least || len(l) < 8 {
		t.Error("few", len(l))
	}
}
