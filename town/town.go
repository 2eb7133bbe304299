// Package town has realms, a state in which there is something of everything, and states in which there is as much as may be: what the tests of layers 21 and above share.
package town

import (
	"slices"
	"strings"

	"rialto/api"
)

// The accounts of the town.
const (
	Alice = 0 // Level 3, mints, and founded the guild 1
	Bob   = 1 // Level 0, and founded the guild 0
	Carol = 2 // Level 1, and is a member of the guild 1
)

// The places of the town's labels.
const (
	Bottom = 0
	Hall   = 1 // of the guild 0
	Club   = 2 // the hall of the guild 1
	Upper  = 3 // Level 1
	Attic  = 4 // Level 1, with the compartment of the guild 0
	Top    = 5 // Level 3, with both
)

// Realm is the town's.
func Realm() api.Realm {
	return api.Realm{
		Labels: []api.Label{{}, {Comps: 1 << 2}, {Comps: 1 << 5}, {Level: 1}, {Level: 1, Comps: 1 << 2}, {Level: 3, Comps: 1<<2 | 1<<5}},
		Lines:  []int{Bottom, Hall, Top, Club, Attic, Bottom},
		Accounts: []api.Account{
			{Name: "alice", Secret: "rose", Level: 3, Mints: true},
			{Name: "bob", Secret: "rose"},
			{Name: "carol", Secret: "lily", Level: 1},
		},
		Guilds: []api.Guild{{Bit: 2, Founder: Bob}, {Bit: 5, Founder: Alice}},
		Quotas: []api.Quota{
			{Rooms: 3, Exits: 3, Items: 4, Mails: 2, Trades: 2, Cap: 1000},
			{Rooms: 2, Exits: 2, Items: 3, Mails: 2, Trades: 1, Cap: 500},
			{Rooms: 1, Exits: 1, Items: 1, Mails: 1, Trades: 1},
			{},
			{Rooms: 1, Exits: 2, Items: 2, Mails: 1, Trades: 1, Cap: 50},
			{Rooms: 2, Exits: 3, Items: 12, Mails: 3, Trades: 2, Cap: 1 << 61},
		},
		Orders: 4, Audits: 6, Rate: 2, Rounds: 3,
	}
}

// State is a state that the town may have, with slots that are taken and free of each kind.
func State() api.State {
	return api.State{
		Round:   9,
		Shelves: []api.Shelf{bottom(), hall(), club(), upper(), attic(), top()},
		Ranks:   [][]int{{1, 2, 0}, {2, 0, 1}},
		Orders: []api.Order{
			{},
			{Used: true, Label: Bottom, Who: Bob, Side: api.Sell, Base: 0, Quote: 1, Price: 5, Left: 3, Reserve: 3, Seq: 0},
			{},
			{Used: true, Label: Attic, Who: Alice, Side: api.Buy, Base: 2, Quote: 3, Price: 4, Left: 2, Reserve: 8, Seq: 2},
		},
		Audit: []api.Entry{
			{Round: 3, Line: 0, Label: Bottom, Who: Bob, Side: api.Sell, Base: 0, Quote: 1, Qty: 3, Price: 5},
			{Round: 3, Line: 4, Label: Attic, Who: Alice, Side: api.Pull, Slot: 2},
			{Round: 9, Line: 4, Label: Attic, Who: Alice, Side: api.Buy, Base: 2, Quote: 3, Qty: 2, Price: 4},
		},
		// Carol sits where she is not cleared.
		Sessions: []int{Bob, Bob, Alice, -1, Carol, Alice},
	}
}

// Least is a realm with as few of all as there may be.
func Least() api.Realm {
	return api.Realm{
		Labels:   []api.Label{{}},
		Lines:    []int{0},
		Accounts: []api.Account{{Name: "a", Secret: "s"}},
		Quotas:   []api.Quota{{Rooms: 1}},
		Rate:     1, Rounds: 1,
	}
}

// Full is a realm with as many of all as there may be, and names as long.
func Full() api.Realm {
	r := api.Realm{Orders: api.MaxOrders, Audits: api.MaxAudits, Rate: api.MaxRate, Rounds: api.MaxRounds}
	for i := range api.MaxLabels {
		a := api.Label{}
		if i > 0 {
			a.Comps = 1 << (9 * i)
			r.Guilds = append(r.Guilds, api.Guild{Bit: 9 * i, Founder: i - 1})
		}
		r.Labels = append(r.Labels, a)
		r.Lines = append(r.Lines, i)
		r.Accounts = append(r.Accounts, api.Account{Name: strings.Repeat("abcdefgh"[i:i+1], api.MaxName), Secret: strings.Repeat("s", api.MaxName), Level: i % api.Levels})
		r.Quotas = append(r.Quotas, api.Quota{
			Rooms: api.MaxSlots, Exits: api.MaxSlots, Items: api.MaxSlots, Mails: api.MaxSlots, Trades: api.MaxSlots, Cap: api.MaxTotal / api.MaxLabels,
		})
	}
	return r
}

// Packed is a state of a realm that may be in which as much is there as may be, with names and texts as long as they may be: all slots are taken, but those of exits that would have nowhere to begin, of trades of one account, and of orders that no entry, or no coin, would be there for.
func Packed(r api.Realm) api.State {
	accounts := len(r.Accounts)
	s := api.State{Round: uint64(r.Audits), Orders: make([]api.Order, r.Orders)}
	for place, q := range r.Quotas {
		s.Shelves = append(s.Shelves, packed(place, q, accounts))
	}
	for _, g := range r.Guilds {
		row := slices.Repeat([]int{1}, accounts)
		row[g.Founder] = 2
		s.Ranks = append(s.Ranks, row)
	}
	for i := range min(r.Orders, r.Audits, int(min(r.Quotas[0].Cap, api.MaxOrders))) {
		s.Orders[i] = api.Order{Used: true, Label: i % len(r.Labels), Who: i % accounts, Side: api.Sell, Base: 0, Quote: 1, Price: 1, Left: 1, Reserve: 1, Seq: i}
		s.Shelves[0].Minted[0]++
	}
	for i := range r.Audits {
		line := i % len(r.Lines)
		s.Audit = append(s.Audit, api.Entry{Round: uint64(i), Line: line, Label: r.Lines[line], Who: i % accounts, Side: api.Sell, Base: 0, Quote: 1, Qty: 1, Price: 1})
	}
	for i := range r.Lines {
		s.Sessions = append(s.Sessions, i%accounts)
	}
	return s
}

// packed is a shelf of a packed state.
func packed(place int, q api.Quota, accounts int) api.Shelf {
	name, text := strings.Repeat("n", api.MaxName), strings.Repeat("t", api.MaxText)
	x := api.Shelf{
		Rooms:  slices.Repeat([]api.Room{{Used: true, Name: name}}, q.Rooms),
		Exits:  make([]api.Exit, q.Exits),
		Items:  slices.Repeat([]api.Item{{Used: true, Name: name, Kind: api.InHand, Who: accounts - 1}}, q.Items),
		Mails:  slices.Repeat([]api.Mail{{Used: true, To: accounts - 1, Text: text}}, q.Mails),
		Trades: make([]api.Trade, q.Trades),
		Purses: make([][api.Coins]uint64, accounts),
		Places: make([]api.Ref, accounts),
	}
	rooms, from := q.Rooms, place
	if rooms == 0 {
		rooms, from = 1, 0 // the plaza
	}
	for i := range min(q.Exits, rooms*api.Dirs) {
		x.Exits[i] = api.Exit{Used: true, From: api.Ref{Label: from, Slot: i / api.Dirs}, Dir: i % api.Dirs}
	}
	if accounts > 1 {
		offer := api.Trade{Used: true, A: 1, Give: api.Part{Item: -1}, Want: api.Part{Amount: api.MaxTotal, Item: -1}}
		x.Trades = slices.Repeat([]api.Trade{offer}, q.Trades)
	}
	return x
}

// Wrong is realms that may not be; but for the first one, in each something of the town is another one.
func Wrong() []api.Realm {
	out := []api.Realm{{}}
	for _, do := range []func(r *api.Realm){
		func(r *api.Realm) { r.Rate = 0 },
		func(r *api.Realm) { r.Rounds = api.MaxRounds + 1 },
		func(r *api.Realm) { r.Orders = -1 },
		func(r *api.Realm) { r.Audits = api.MaxAudits + 1 },
		func(r *api.Realm) { r.Lines = nil },
		func(r *api.Realm) { r.Lines[0] = len(r.Labels) },
		func(r *api.Realm) { r.Lines[5] = -1 },
		func(r *api.Realm) { r.Quotas = r.Quotas[1:] },
		func(r *api.Realm) { r.Quotas[0].Rooms = 0 },
		func(r *api.Realm) { r.Quotas[1].Items = -1 },
		func(r *api.Realm) { r.Quotas[5].Trades = api.MaxSlots + 1 },
		func(r *api.Realm) { r.Quotas[5].Cap = api.MaxTotal },
		func(r *api.Realm) { r.Labels[0].Level = 1 },
		func(r *api.Realm) { r.Labels[5].Level = 4 },
		func(r *api.Realm) { r.Labels[5].Comps = 1 << 63 },
		func(r *api.Realm) { r.Accounts[2].Name = "bob" },
		func(r *api.Realm) { r.Accounts[2].Level = 4 },
		func(r *api.Realm) { r.Accounts = nil },
		func(r *api.Realm) { r.Guilds[0].Founder = 3 },
		func(r *api.Realm) { r.Guilds[1].Bit = -1 },
		func(r *api.Realm) { r.Guilds = nil },
	} {
		r := Realm()
		do(&r)
		out = append(out, r)
	}
	return out
}

// bottom is the shelf of the bottom.
func bottom() api.Shelf {
	return api.Shelf{
		Rooms: []api.Room{{Used: true, Name: "plaza"}, {}, {Used: true, Name: "yard"}},
		Exits: []api.Exit{
			{Used: true, From: api.Ref{}, To: api.Ref{Slot: 2}, Dir: 1},
			{},
			{Used: true, From: api.Ref{Slot: 2}, To: api.Ref{}, Dir: 0},
		},
		Items: []api.Item{
			{Used: true, Name: "lamp", Kind: api.InHand, Who: Bob},
			{Used: true, Name: "rope", Kind: api.InRoom, At: api.Ref{Slot: 2}},
			{},
			{Used: true, Name: "bell", Kind: api.InTrade, Who: 1},
		},
		Mails: []api.Mail{{}, {Used: true, Label: Bottom, From: Alice, To: Carol, Text: "come at noon"}},
		Trades: []api.Trade{
			{},
			{Used: true, A: Carol, B: Alice, Give: api.Part{Coin: 1, Amount: 5, Item: 3}, Want: api.Part{Coin: 0, Amount: 0, Item: 2}},
		},
		Purses: [][api.Coins]uint64{{10, 0, 3, 0}, {7, 20, 0, 0}, {0, 0, 0, 9}},
		Places: []api.Ref{{}, {Slot: 2}, {}},
		Minted: [api.Coins]uint64{30, 30, 20, 20},
		Burned: [api.Coins]uint64{0, 1, 0, 0},
	}
}

// hall is the shelf of the hall of the guild 0.
func hall() api.Shelf {
	den := api.Ref{Label: Hall, Slot: 1}
	return api.Shelf{
		Rooms: []api.Room{{}, {Used: true, Name: "den"}},
		Exits: []api.Exit{
			{Used: true, From: api.Ref{Slot: 2}, To: den, Dir: 2},
			{Used: true, From: den, To: api.Ref{}, Dir: 5},
		},
		Items: []api.Item{
			{Used: true, Name: "mask", Kind: api.InRoom, At: api.Ref{}},
			{Used: true, Name: "oath", Kind: api.InRoom, At: den},
			{Used: true, Name: "knife", Kind: api.InHand, Who: Carol},
		},
		Mails: []api.Mail{
			{Used: true, Label: Bottom, From: Bob, To: Alice, Text: "let me in"},
			{Used: true, Label: Hall, From: Alice, To: Bob, Text: "no"},
		},
		Trades: []api.Trade{{Used: true, A: Alice, B: Bob, Give: api.Part{Coin: 3, Amount: 7, Item: -1}, Want: api.Part{Item: -1}}},
		Purses: [][api.Coins]uint64{{}, {0, 1, 0, 4}, {}},
		Places: []api.Ref{{Slot: 2}, den, {}},
		Minted: [api.Coins]uint64{0, 0, 0, 3},
		Burned: [api.Coins]uint64{0, 0, 2, 0},
	}
}

// club is the shelf of the hall of the guild 1: all its slots are taken.
func club() api.Shelf {
	nook := api.Ref{Label: Club, Slot: 0}
	return api.Shelf{
		Rooms:  []api.Room{{Used: true, Name: "nook"}},
		Exits:  []api.Exit{{Used: true, From: nook, To: api.Ref{}, Dir: 0}},
		Items:  []api.Item{{Used: true, Name: "chess", Kind: api.InHand, Who: Alice}},
		Mails:  []api.Mail{{Used: true, Label: Club, From: Alice, To: Alice, Text: "to be done"}},
		Trades: []api.Trade{{Used: true, A: Bob, B: Carol, Give: api.Part{Item: -1}, Want: api.Part{Coin: 2, Amount: 5, Item: 0}}},
		Purses: make([][api.Coins]uint64, 3),
		Places: []api.Ref{nook, {}, {Slot: 2}},
	}
}

// upper is the shelf of Level 1: its label has no slots.
func upper() api.Shelf {
	return api.Shelf{
		Purses: [][api.Coins]uint64{{}, {}, {2, 0, 0, 0}},
		Places: []api.Ref{{}, {Slot: 2}, {}},
		Burned: [api.Coins]uint64{1, 0, 0, 0},
	}
}

// attic is the shelf of Level 1 with the compartment of the guild 0.
func attic() api.Shelf {
	den, hut := api.Ref{Label: Hall, Slot: 1}, api.Ref{Label: Attic, Slot: 0}
	return api.Shelf{
		Rooms: []api.Room{{Used: true, Name: "hut"}},
		Exits: []api.Exit{{Used: true, From: den, To: hut, Dir: 0}, {Used: true, From: hut, To: api.Ref{Slot: 2}, Dir: 5}},
		Items: []api.Item{
			{Used: true, Name: "chest", Kind: api.InRoom, At: hut},
			{Used: true, Name: "key", Kind: api.InTrade, Who: 0},
		},
		Mails:  []api.Mail{{Used: true, Label: Upper, From: Carol, To: Bob, Text: "climb"}},
		Trades: []api.Trade{{Used: true, A: Carol, B: Bob, Give: api.Part{Item: 1}, Want: api.Part{Coin: 1, Amount: 1, Item: 0}}},
		Purses: [][api.Coins]uint64{{1, 1, 0, 0}, {}, {}},
		Places: []api.Ref{hut, den, {}},
		Minted: [api.Coins]uint64{50, 0, 0, 0},
	}
}

// top is the shelf of the label that all others are at or below.
func top() api.Shelf {
	den, nook, vault := api.Ref{Label: Hall, Slot: 1}, api.Ref{Label: Club, Slot: 0}, api.Ref{Label: Top, Slot: 1}
	items := make([]api.Item, 12)
	items[0] = api.Item{Used: true, Name: "seal", Kind: api.InHand, Who: Alice}
	items[5] = api.Item{Used: true, Name: "gold", Kind: api.InRoom, At: vault}
	items[6] = api.Item{Used: true, Name: "eye", Kind: api.InRoom, At: den}
	items[11] = api.Item{Used: true, Name: "crown", Kind: api.InTrade, Who: 1}
	return api.Shelf{
		Rooms: []api.Room{{}, {Used: true, Name: "vault"}},
		Exits: []api.Exit{
			{Used: true, From: vault, To: api.Ref{Label: Attic, Slot: 0}, Dir: 3},
			{Used: true, From: nook, To: vault, Dir: 4},
			{},
		},
		Items: items,
		Mails: []api.Mail{
			{Used: true, Label: Attic, From: Carol, To: Alice, Text: "all is well"},
			{Used: true, Label: Top, From: Alice, To: Carol, Text: "burn this"},
			{},
		},
		Trades: []api.Trade{
			{},
			{Used: true, A: Alice, B: Carol, Give: api.Part{Item: 11}, Want: api.Part{Coin: 2, Amount: 9, Item: -1}},
		},
		Purses: [][api.Coins]uint64{{100, 0, 1<<61 + 15, 0}, {}, {}},
		Places: []api.Ref{vault, nook, den},
		Minted: [api.Coins]uint64{60, 0, 1 << 61, 5},
		Burned: [api.Coins]uint64{16, 2, 0, 0},
	}
}
