package town

import (
	"math"
	"slices"

	"rialto/api"
	"rialto/label"
)

// Roomy is the realm of a town with as many slots of all as there may be, and two lines more.
func Roomy() api.Realm {
	r := Realm()
	r.Lines = append(r.Lines, Upper, Attic)
	r.Quotas[Club].Cap, r.Quotas[Upper].Cap = 300, 200
	for i, q := range r.Quotas {
		r.Quotas[i] = api.Quota{Rooms: api.MaxSlots, Exits: api.MaxSlots, Items: api.MaxSlots, Mails: api.MaxSlots, Trades: api.MaxSlots, Cap: q.Cap}
	}
	r.Orders, r.Audits = api.MaxOrders, api.MaxAudits
	return r
}

// Spread is the town's state with the slots of the roomy one. From some rooms more than one exit leads in the same direction, made at labels of which one is at or below the other, or not.
func Spread() api.State {
	s := State()
	for i := range s.Shelves {
		x := &s.Shelves[i]
		x.Rooms, x.Exits, x.Items = widened(x.Rooms), widened(x.Exits), widened(x.Items)
		x.Mails, x.Trades = widened(x.Mails), widened(x.Trades)
	}
	yard, den, hut := api.Ref{Slot: 2}, api.Ref{Label: Hall, Slot: 1}, api.Ref{Label: Attic}
	s.Shelves[Attic].Exits[7] = api.Exit{Used: true, From: yard, To: hut, Dir: 0}
	s.Shelves[Attic].Exits[8] = api.Exit{Used: true, From: den, To: hut, Dir: 5}
	s.Shelves[Hall].Exits[9] = api.Exit{Used: true, From: api.Ref{}, To: den, Dir: 4}
	s.Shelves[Club].Exits[2] = api.Exit{Used: true, From: api.Ref{}, To: api.Ref{Label: Club}, Dir: 4}
	s.Shelves[Top].Exits[2] = api.Exit{Used: true, From: api.Ref{}, To: hut, Dir: 4}
	s.Orders = append(s.Orders, make([]api.Order, api.MaxOrders-len(s.Orders))...)
	s.Sessions = append(s.Sessions, Carol, Alice)
	return s
}

// widened is slots with free ones behind them.
func widened[T any](l []T) []T { return append(l, make([]T, api.MaxSlots-len(l))...) }

// Everyone is all who may act in a realm.
func Everyone(r api.Realm) []api.Me {
	var out []api.Me
	for line, place := range r.Lines {
		for who := range r.Accounts {
			out = append(out, api.Me{Line: line, Label: place, Who: who})
		}
	}
	return out
}

// Nobody is some who may not act in a realm.
func Nobody(r api.Realm) []api.Me {
	var out []api.Me
	for _, n := range []int{math.MinInt, -256, -1, api.MaxLines, 255, 256, math.MaxInt} {
		out = append(out, api.Me{Line: n, Label: r.Lines[0]}, api.Me{Label: n}, api.Me{Label: r.Lines[0], Who: n})
	}
	for line, place := range r.Lines {
		out = append(out, api.Me{Line: line, Label: place + 1}, api.Me{Line: line, Label: place - 1}, api.Me{Line: line, Label: place, Who: len(r.Accounts)})
	}
	return append(out, api.Me{Line: len(r.Lines), Label: r.Lines[0]})
}

// Sights is labels from which a town is seen: such as it has, and others.
func Sights() []api.Label {
	out := []api.Label{{Level: api.Levels - 1, Comps: math.MaxUint64}}
	for level := range api.Levels {
		for _, comps := range []uint64{0, 1 << 2, 1 << 5, 1 << 7, 1<<2 | 1<<5, 1<<2 | 1<<7, 1<<5 | 1<<7, 1<<2 | 1<<5 | 1<<7} {
			out = append(out, api.Label{Level: level, Comps: comps})
		}
	}
	return out
}

// Sees tells whether the label of somebody who may act is at or below another one.
func Sees(r api.Realm, me api.Me, from api.Label) bool {
	return label.Leq(r.Labels[me.Label], from)
}

// Hidden is a state, of a realm of the town, that is seen alike from a label: on the shelves that are not seen from it is nothing, or as much as may be; who sits at other lines, and what ranks others have, is another thing.
func Hidden(r api.Realm, s api.State, from api.Label, full bool) api.State {
	unseen := func(place int) bool { return !label.Leq(r.Labels[place], from) }
	out := api.State{Round: s.Round, Orders: slices.Clone(s.Orders), Audit: slices.Clone(s.Audit), Shelves: slices.Clone(s.Shelves)}
	for place, x := range s.Shelves {
		if unseen(place) {
			out.Shelves[place] = stirred(x, place, r.Quotas[place].Cap, full)
		}
	}
	for line, who := range s.Sessions {
		switch {
		case !unseen(r.Lines[line]):
		case full:
			who = (who + 1) % len(r.Accounts)
		default:
			who = -1
		}
		out.Sessions = append(out.Sessions, who)
	}
	for guild, row := range s.Ranks {
		row = slices.Clone(row)
		hall, _ := label.Hall(r.Guilds[guild].Bit)
		if !label.Leq(hall, from) {
			for who, rank := range row {
				row[who] = (rank + 1) % 3
			}
			row[r.Guilds[guild].Founder] = 2
		}
		out.Ranks = append(out.Ranks, row)
	}
	return out
}

// stirred is a shelf with as many slots and coins as another one had, or, if it is full, with as many coins as may be.
func stirred(x api.Shelf, place int, most uint64, full bool) api.Shelf {
	accounts := len(x.Purses)
	out := api.Shelf{
		Rooms:  make([]api.Room, len(x.Rooms)),
		Exits:  make([]api.Exit, len(x.Exits)),
		Items:  make([]api.Item, len(x.Items)),
		Mails:  make([]api.Mail, len(x.Mails)),
		Trades: make([]api.Trade, len(x.Trades)),
		Purses: make([][api.Coins]uint64, accounts),
		Places: make([]api.Ref, accounts),
		Minted: x.Minted,
		Burned: x.Burned,
	}
	if full {
		out = packed(place, api.Quota{Rooms: len(x.Rooms), Exits: len(x.Exits), Items: len(x.Items), Mails: len(x.Mails), Trades: len(x.Trades)}, accounts)
		out.Minted, out.Burned = [api.Coins]uint64{most, most, most, most}, x.Burned
		for i := range min(len(out.Rooms), accounts) {
			out.Places[i] = api.Ref{Label: place, Slot: i}
		}
	}
	purse := &out.Purses[accounts-1]
	for c := range purse {
		purse[c] = out.Minted[c] - x.Minted[c]
		for _, p := range x.Purses {
			purse[c] += p[c]
		}
	}
	for _, t := range x.Trades {
		purse[t.Give.Coin] += t.Give.Amount
	}
	return out
}

// Faulty is states that may not be, each but the first one made of a state, of a town, in which something is another thing.
func Faulty(s api.State) []api.State {
	out := []api.State{{}}
	far := api.Ref{Label: Top, Slot: 1}
	for _, do := range []func(s *api.State, x *api.Shelf){
		func(s *api.State, _ *api.Shelf) { s.Round = api.MaxTotal + 1 },
		func(s *api.State, _ *api.Shelf) { s.Shelves = s.Shelves[1:] },
		func(s *api.State, _ *api.Shelf) { s.Shelves = append(s.Shelves, api.Shelf{}) },
		func(s *api.State, _ *api.Shelf) { s.Ranks = s.Ranks[:1] },
		func(s *api.State, _ *api.Shelf) { s.Ranks = [][]int{{3, 2, 0}, {2, 0, 0}} },
		func(s *api.State, _ *api.Shelf) { s.Orders = s.Orders[1:] },
		func(s *api.State, _ *api.Shelf) { s.Audit = nil },
		func(s *api.State, _ *api.Shelf) { s.Sessions = append(slices.Clone(s.Sessions), -1) },
		func(s *api.State, _ *api.Shelf) { s.Sessions = slices.Repeat([]int{3}, len(s.Sessions)) },
		func(_ *api.State, x *api.Shelf) { x.Rooms = nil },
		func(_ *api.State, x *api.Shelf) { x.Rooms = append([]api.Room{{}}, x.Rooms[1:]...) },
		func(_ *api.State, x *api.Shelf) {
			x.Exits = append([]api.Exit{{Used: true, To: far}}, x.Exits[1:]...)
		},
		func(_ *api.State, x *api.Shelf) {
			x.Items = append([]api.Item{{Used: true, Name: "lamp", Kind: 4}}, x.Items[1:]...)
		},
		func(_ *api.State, x *api.Shelf) {
			x.Items = append([]api.Item{{Used: true, Name: "lamp", Kind: api.InTrade}}, x.Items[1:]...)
		},
		func(_ *api.State, x *api.Shelf) {
			x.Mails = append([]api.Mail{{Used: true, Label: Top, Text: "come"}}, x.Mails[1:]...)
		},
		func(_ *api.State, x *api.Shelf) { x.Trades = append([]api.Trade{{A: 1}}, x.Trades[1:]...) },
		func(_ *api.State, x *api.Shelf) { x.Purses = x.Purses[1:] },
		func(_ *api.State, x *api.Shelf) {
			x.Purses = [][api.Coins]uint64{{1}, {}, {}}
		},
		func(_ *api.State, x *api.Shelf) { x.Places = []api.Ref{far, {}, {}} },
		func(_ *api.State, x *api.Shelf) { x.Places = []api.Ref{{}, {}, {Slot: 1}} },
		func(_ *api.State, x *api.Shelf) { x.Minted[2] = 1 << 61 },
		func(_ *api.State, x *api.Shelf) { x.Burned[3] = 1 },
	} {
		wrong := s
		wrong.Shelves = slices.Clone(s.Shelves)
		do(&wrong, &wrong.Shelves[Bottom])
		out = append(out, wrong)
	}
	return out
}

// Spoil puts other things into all of a state's memory.
func Spoil(s *api.State) {
	for i := range s.Shelves {
		x := &s.Shelves[i]
		fill(x.Rooms, api.Room{Name: "spoilt"})
		fill(x.Exits, api.Exit{Dir: 99})
		fill(x.Items, api.Item{Who: 99})
		fill(x.Mails, api.Mail{To: 99})
		fill(x.Trades, api.Trade{B: 99})
		fill(x.Purses, [api.Coins]uint64{99, 99, 99, 99})
		fill(x.Places, api.Ref{Slot: 99})
	}
	fill(s.Shelves, api.Shelf{})
	for _, row := range s.Ranks {
		fill(row, 99)
	}
	fill(s.Ranks, nil)
	fill(s.Orders, api.Order{Seq: 99})
	fill(s.Audit, api.Entry{Slot: 99})
	fill(s.Sessions, 99)
}

// fill puts the same thing everywhere.
func fill[T any](l []T, x T) {
	for i := range l {
		l[i] = x
	}
}
