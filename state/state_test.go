package state

import (
	"math"
	"math/big"
	"reflect"
	"slices"
	"strconv"
	"strings"
	"testing"

	"rialto/api"
	"rialto/audit"
	"rialto/book"
	"rialto/hall"
	"rialto/label"
	"rialto/post"
	"rialto/realm"
	"rialto/room"
	"rialto/thing"
	"rialto/town"
	"rialto/trade"
)

const most = 1 << 62

// realms are some that may be.
func realms() []api.Realm { return []api.Realm{town.Realm(), town.Least(), town.Full()} }

// fresh is the new state of a realm.
func fresh(t *testing.T, r api.Realm) api.State {
	t.Helper()
	s, e := New(r)
	if e != api.OK {
		t.Fatal("New", e)
	}
	return s
}

// field is a place in a state at which something stands.
type field struct {
	at string
	v  reflect.Value
}

// fields are all of a value that can be changed, and all lists of it, with what stands within them.
func fields(at string, v reflect.Value) []field {
	var out []field
	switch v.Kind() {
	case reflect.Struct:
		for i := range v.NumField() {
			out = append(out, fields(at+"."+v.Type().Field(i).Name, v.Field(i))...)
		}
	case reflect.Slice, reflect.Array:
		if v.Kind() == reflect.Slice {
			out = append(out, field{at, v})
		}
		for i := range v.Len() {
			out = append(out, fields(at+"["+strconv.Itoa(i)+"]", v.Index(i))...)
		}
	default:
		out = append(out, field{at, v})
	}
	return out
}

// of are the fields of a state.
func of(s *api.State) []field { return fields("", reflect.ValueOf(s).Elem()) }

// others are what may stand in a field instead.
func (f field) others() []any {
	var out []any
	switch x := f.v.Interface().(type) {
	case bool:
		out = append(out, !x)
	case string:
		out = append(out, "", "plaza", "lamp", "Lamp", "come in", strings.Repeat("a", 12), strings.Repeat("a", 13), strings.Repeat("a", 40), strings.Repeat("a", 41))
	case int:
		for _, n := range []int{x - 1, x + 1, math.MinInt, -128, -2, -1, 0, 1, 2, 3, 4, 5, 6, 7, 8, 12, 127, 128, 256, math.MaxInt} {
			out = append(out, n)
		}
	case uint64:
		for _, n := range []uint64{x - 1, x + 1, 2 * x, 0, 1, 2, 3, 8, 9, 10, 50, 51, 1000, 1001, 1 << 61, 1<<61 + 1, most - 1, most, most + 1, 1 << 63, math.MaxUint64} {
			out = append(out, n)
		}
	default:
		l, zero := f.v, reflect.Zero(f.v.Type().Elem())
		out = append(out, reflect.Zero(l.Type()).Interface(), reflect.Append(l.Slice3(0, l.Len(), l.Len()), zero).Interface())
		if n := l.Len(); n > 0 {
			out = append(out, l.Slice(0, n-1).Interface(), l.Slice(1, n).Interface(), reflect.AppendSlice(l.Slice3(0, n, n), l).Interface())
		}
	}
	return out
}

// eachChange does something behind each change of one field of a state.
func eachChange(s api.State, do func(at string, s api.State)) {
	s = Clone(s)
	for _, f := range of(&s) {
		was := reflect.ValueOf(f.v.Interface())
		for _, x := range f.others() {
			f.v.Set(reflect.ValueOf(x))
			do(f.at, s)
		}
		f.v.Set(was)
	}
}

// faults works out anew what of the document does not hold of a state, of a realm that may be.
func faults(r api.Realm, s api.State) []string {
	if l := wrongCounts(r, s); l != nil {
		return l
	}
	var out []string
	wrong := func(holds bool, what string) {
		if !holds {
			out = append(out, what)
		}
	}
	wrong(s.Round <= most, "round")
	wrong(s.Shelves[0].Rooms[0].Used, "plaza")
	wrong(hall.Right(r, s.Ranks), "ranks")
	wrong(book.Right(s.Orders), "orders")
	wrong(audit.Right(s.Audit), "audit")
	for _, who := range s.Sessions {
		wrong(who >= -1 && who < len(r.Accounts), "who sits")
	}
	for _, o := range s.Orders {
		wrong(o.Label >= 0 && o.Label < len(r.Labels) && o.Who >= 0 && o.Who < len(r.Accounts), "owner")
		wrong(!o.Used || o.Seq < len(s.Audit), "seq")
	}
	for _, x := range s.Audit {
		wrong(x.Line >= 0 && x.Line < len(r.Lines) && r.Lines[x.Line] == x.Label, "line of an entry")
		wrong(x.Who >= 0 && x.Who < len(r.Accounts) && x.Round <= s.Round, "entry")
	}
	for place := range s.Shelves {
		out = append(out, wrongShelf(r, s, place)...)
	}
	for c := range 4 {
		held, minted, burned := sums(s, c)
		wrong(minted.Cmp(burned) >= 0 && held.Cmp(minted.Sub(minted, burned)) == 0, "balance")
		wrong(held.Cmp(big.NewInt(most)) <= 0, "total")
	}
	return out
}

func wrongCounts(r api.Realm, s api.State) []string {
	if len(s.Shelves) != len(r.Labels) || len(s.Ranks) != len(r.Guilds) || len(s.Sessions) != len(r.Lines) || len(s.Orders) != r.Orders || len(s.Audit) > r.Audits {
		return []string{"count"}
	}
	for i, x := range s.Shelves {
		q := r.Quotas[i]
		if len(x.Rooms) != q.Rooms || len(x.Exits) != q.Exits || len(x.Items) != q.Items || len(x.Mails) != q.Mails || len(x.Trades) != q.Trades {
			return []string{"quota"}
		}
		if len(x.Purses) != len(r.Accounts) || len(x.Places) != len(r.Accounts) {
			return []string{"purses or places"}
		}
	}
	return nil
}

func wrongShelf(r api.Realm, s api.State, place int) []string {
	var out []string
	wrong := func(holds bool, what string) {
		if !holds {
			out = append(out, what)
		}
	}
	x := s.Shelves[place]
	wrong(room.Rooms(x.Rooms) && room.Exits(x.Exits) && thing.Right(x.Items) && post.Right(x.Mails) && trade.Right(x.Trades), "slots")
	known := func(at api.Ref) bool {
		for i, y := range s.Shelves {
			for slot, z := range y.Rooms {
				if z.Used && at == (api.Ref{Label: i, Slot: slot}) {
					return label.Leq(r.Labels[i], r.Labels[place])
				}
			}
		}
		return false
	}
	account := func(n int) bool { return 0 <= n && n < len(r.Accounts) }
	for _, y := range x.Exits {
		wrong(!y.Used || known(y.From) && known(y.To), "exit")
	}
	for _, at := range x.Places {
		wrong(known(at), "place")
	}
	for i, y := range x.Items {
		if !y.Used {
			continue
		}
		switch y.Kind {
		case 1:
			wrong(account(y.Who), "hand")
		case 2:
			wrong(known(y.At), "room")
		case 3:
			gives := []int{}
			for slot, z := range x.Trades {
				if z.Used && z.Give.Item == i {
					gives = append(gives, slot)
				}
			}
			wrong(slices.Contains(gives, y.Who), "held by a trade")
		}
	}
	for _, y := range x.Mails {
		wrong(!y.Used || y.Label >= 0 && y.Label < len(r.Labels) && label.Leq(r.Labels[y.Label], r.Labels[place]) && account(y.From) && account(y.To), "letter")
	}
	for slot, y := range x.Trades {
		if !y.Used {
			continue
		}
		wrong(account(y.A) && account(y.B), "trade")
		wrong(y.Want.Item < len(x.Items) && y.Give.Item < len(x.Items), "slot of a trade")
		if g := y.Give.Item; g >= 0 && g < len(x.Items) {
			wrong(x.Items[g].Used && x.Items[g].Kind == 3 && x.Items[g].Who == slot, "given")
		}
	}
	for _, n := range x.Minted {
		wrong(n <= r.Quotas[place].Cap, "cap")
	}
	return out
}

// sums works out anew what is held of a coin, what was minted, and what was burned, by numbers without an end.
func sums(s api.State, c int) (held, minted, burned *big.Int) {
	held, minted, burned = new(big.Int), new(big.Int), new(big.Int)
	add := func(to *big.Int, n uint64) { to.Add(to, new(big.Int).SetUint64(n)) }
	for _, x := range s.Shelves {
		for _, p := range x.Purses {
			add(held, p[c])
		}
		for _, y := range x.Trades {
			if y.Used && y.Give.Coin == c {
				add(held, y.Give.Amount)
			}
		}
		add(minted, x.Minted[c])
		add(burned, x.Burned[c])
	}
	for _, o := range s.Orders {
		if o.Used && (o.Side == 2 && o.Base == c || o.Side != 2 && o.Quote == c) {
			add(held, o.Reserve)
		}
	}
	return held, minted, burned
}

// change is something done to the town's state.
type change struct {
	what string
	do   func(s *api.State)
}

// fine are changes behind which the town's state may be.
func fine() []change {
	x := func(s *api.State, place int) *api.Shelf { return &s.Shelves[place] }
	return []change{
		{"nothing", func(s *api.State) {}},
		{"the greatest round", func(s *api.State) { s.Round = most }},
		{"the least round", func(s *api.State) { s.Round = s.Audit[2].Round }},
		{"the plaza has another name", func(s *api.State) { x(s, 0).Rooms[0].Name = "square" }},
		{"nobody sits anywhere", func(s *api.State) { s.Sessions = []int{-1, -1, -1, -1, -1, -1} }},
		{"one sits everywhere", func(s *api.State) { s.Sessions = []int{2, 2, 2, 2, 2, 2} }},
		{"ranks", func(s *api.State) { s.Ranks = [][]int{{0, 2, 2}, {2, 1, 0}} }},
		{"a longer log", func(s *api.State) {
			s.Audit = append(s.Audit, api.Entry{Round: 9, Line: 5, Who: 2, Side: 3, Slot: 127}, api.Entry{Round: 10, Line: 3, Label: 2, Who: 1, Side: 3}, api.Entry{Round: 10, Line: 5, Side: 3})
			s.Round = 10
		}},
		{"the Seqs change places", func(s *api.State) { s.Orders[1].Seq, s.Orders[3].Seq = 2, 1 }},
		{"an order changes its slot", func(s *api.State) { s.Orders[0], s.Orders[1] = s.Orders[1], api.Order{} }},
		{"a room at each slot", func(s *api.State) { x(s, 0).Rooms[1] = api.Room{Used: true, Name: "plaza"} }},
		{"a room goes to which nothing leads", func(s *api.State) {
			x(s, 4).Exits, x(s, 5).Exits[0], x(s, 4).Items[0], x(s, 4).Places[0] = make([]api.Exit, 2), api.Exit{}, api.Item{}, api.Ref{}
			x(s, 4).Rooms[0] = api.Room{}
		}},
		{"an exit begins and ends in one room", func(s *api.State) { x(s, 0).Exits[0].To = x(s, 0).Exits[0].From }},
		{"two shelves' exits begin alike", func(s *api.State) { x(s, 1).Exits[0].Dir = 0 }},
		{"an item goes to another hand", func(s *api.State) { x(s, 0).Items[0].Who = 2 }},
		{"an item is dropped", func(s *api.State) { x(s, 5).Items[0].Kind, x(s, 5).Items[0].At = 2, api.Ref{Label: 4} }},
		{"a trade changes its slot", func(s *api.State) {
			x(s, 0).Trades[0], x(s, 0).Trades[1] = x(s, 0).Trades[1], api.Trade{}
			x(s, 0).Items[3].Who = 0
		}},
		{"a trade wants the item that it gives", func(s *api.State) { x(s, 0).Trades[1].Want.Item = 3 }},
		{"a trade is of two others", func(s *api.State) { x(s, 0).Trades[1].A, x(s, 0).Trades[1].B = 1, 2 }},
		{"two trades give two items", func(s *api.State) {
			x(s, 0).Trades[0] = api.Trade{Used: true, A: 1, Give: api.Part{Item: 0}, Want: api.Part{Item: 0}}
			x(s, 0).Items[0].Kind, x(s, 0).Items[0].Who = 3, 0
		}},
		{"a letter to oneself", func(s *api.State) { x(s, 0).Mails[0] = api.Mail{Used: true, Text: "a"} }},
		{"a letter of each label below", func(s *api.State) { x(s, 5).Mails[2] = api.Mail{Used: true, Label: 3, Text: "a"} }},
		{"minted up to the cap", func(s *api.State) { x(s, 0).Minted[0], x(s, 4).Purses[2][0] = 1000, 970 }},
		{"minted up to all", func(s *api.State) { x(s, 5).Minted[1], x(s, 3).Purses[0][1] = 1<<61, 1<<61 }},
		{"burned above what the cap is", func(s *api.State) { x(s, 5).Purses[0][2], x(s, 3).Burned[2] = 15, 1<<61 }},
		{"a purse to another one", func(s *api.State) { x(s, 0).Purses[0], x(s, 5).Purses[1] = x(s, 5).Purses[1], x(s, 0).Purses[0] }},
	}
}

// wrong are changes behind which it may not be.
func wrong() []change {
	x := func(s *api.State, place int) *api.Shelf { return &s.Shelves[place] }
	return slices.Concat([]change{
		{"nothing is there", func(s *api.State) { *s = api.State{} }},
		{"a shelf too few", func(s *api.State) { s.Shelves = s.Shelves[:5] }},
		{"a shelf too many", func(s *api.State) { s.Shelves = append(s.Shelves, s.Shelves[3]) }},
		{"shelves in another order", func(s *api.State) { s.Shelves[1], s.Shelves[2] = s.Shelves[2], s.Shelves[1] }},
		{"a seat too few", func(s *api.State) { s.Sessions = s.Sessions[:5] }},
		{"a seat too many", func(s *api.State) { s.Sessions = append(s.Sessions, -1) }},
		{"an account too many sits", func(s *api.State) { s.Sessions[0] = 3 }},
		{"less than nobody sits", func(s *api.State) { s.Sessions[5] = -2 }},
		{"no ranks", func(s *api.State) { s.Ranks = nil }},
		{"a founder who is none", func(s *api.State) { s.Ranks[1][0] = 1 }},
		{"a row too many", func(s *api.State) { s.Ranks = append(s.Ranks, []int{0, 0, 0}) }},
		{"the round is too great", func(s *api.State) { s.Round = most + 1 }},
		{"an entry is of a round to come", func(s *api.State) { s.Round = 8 }},
		{"no plaza", func(s *api.State) {
			s.Shelves[0].Rooms[0] = api.Room{}
			for i := range s.Shelves {
				y := &s.Shelves[i]
				clear(y.Exits)
				y.Places = []api.Ref{{Slot: 2}, {Slot: 2}, {Slot: 2}}
			}
			x(s, 1).Items[0].At.Slot = 2
		}},
		{"an order too few", func(s *api.State) { s.Orders = s.Orders[1:] }},
		{"an order too many", func(s *api.State) { s.Orders = append(s.Orders, api.Order{}) }},
		{"an order of a label too many", func(s *api.State) { s.Orders[1].Label = 6 }},
		{"an order of an account too many", func(s *api.State) { s.Orders[1].Who = 3 }},
		{"an order ahead of its entry", func(s *api.State) { s.Orders[3].Seq = 3 }},
		{"two orders of one Seq", func(s *api.State) { s.Orders[3].Seq = 0 }},
		{"an order that may not be", func(s *api.State) { s.Orders[0].Seq = 1 }},
		{"no entries for the orders", func(s *api.State) { s.Audit = nil }},
		{"entries in another order", func(s *api.State) { s.Audit[0], s.Audit[1] = s.Audit[1], s.Audit[0] }},
		{"more entries than may be", func(s *api.State) {
			s.Round = 99
			for len(s.Audit) < 7 {
				s.Audit = append(s.Audit, api.Entry{Round: uint64(10 + len(s.Audit)), Side: 3})
			}
		}},
		{"an entry of a line too many", func(s *api.State) { s.Audit[2].Line = 6 }},
		{"an entry of another label", func(s *api.State) { s.Audit[2].Label = 3 }},
		{"an entry of another line", func(s *api.State) { s.Audit[2].Line = 3 }},
		{"an entry of an account too many", func(s *api.State) { s.Audit[2].Who = 3 }},
		{"an entry that may not be", func(s *api.State) { s.Audit[1].Qty = 1 }},
	}, wrongThings(x), wrongCoins(x))
}

// wrongThings are such changes of rooms and what stands in them, and of trades and letters.
func wrongThings(x func(s *api.State, place int) *api.Shelf) []change {
	return []change{
		{"a room too few", func(s *api.State) { x(s, 5).Rooms = x(s, 5).Rooms[:1] }},
		{"a room too many", func(s *api.State) { x(s, 3).Rooms = make([]api.Room, 1) }},
		{"an exit too many", func(s *api.State) { x(s, 3).Exits = make([]api.Exit, 1) }},
		{"an item too few", func(s *api.State) { x(s, 0).Items = x(s, 0).Items[:3] }},
		{"a letter too few", func(s *api.State) { x(s, 5).Mails = x(s, 5).Mails[:2] }},
		{"a trade too many", func(s *api.State) { x(s, 5).Trades = append(x(s, 5).Trades, api.Trade{}) }},
		{"a place too few", func(s *api.State) { x(s, 5).Places = x(s, 5).Places[:2] }},
		{"a place too many", func(s *api.State) { x(s, 5).Places = append(x(s, 5).Places, api.Ref{}) }},
		{"a room without a name", func(s *api.State) { x(s, 0).Rooms[1].Used = true }},
		{"a room of no name", func(s *api.State) { x(s, 0).Rooms[0].Name = "The plaza" }},
		{"a name without a room", func(s *api.State) { x(s, 5).Rooms[0].Name = "attic" }},
		{"an exit in no direction", func(s *api.State) { x(s, 0).Exits[0].Dir = 6 }},
		{"two exits begin alike", func(s *api.State) { x(s, 0).Exits[1] = x(s, 0).Exits[0] }},
		{"an exit from no room", func(s *api.State) { x(s, 0).Exits[0].From.Slot = 1 }},
		{"an exit to no room", func(s *api.State) { x(s, 0).Exits[0].To.Slot = 1 }},
		{"an exit to a slot that there is not", func(s *api.State) { x(s, 0).Exits[0].To.Slot = 3 }},
		{"an exit to a label that there is not", func(s *api.State) { x(s, 5).Exits[0].To = api.Ref{Label: 6} }},
		{"an exit to above", func(s *api.State) { x(s, 0).Exits[0].To = api.Ref{Label: 1, Slot: 1} }},
		{"an exit from above", func(s *api.State) { x(s, 0).Exits[0].From = api.Ref{Label: 1, Slot: 1} }},
		{"an exit to beside", func(s *api.State) { x(s, 1).Exits[1].To = api.Ref{Label: 2} }},
		{"an exit from beside", func(s *api.State) { x(s, 1).Exits[1].From = api.Ref{Label: 2} }},
		{"a place in no room", func(s *api.State) { x(s, 0).Places[0].Slot = 1 }},
		{"a place above", func(s *api.State) { x(s, 0).Places[0] = api.Ref{Label: 1, Slot: 1} }},
		{"a place beside", func(s *api.State) { x(s, 4).Places[0] = api.Ref{Label: 2} }},
		{"a place of a label that there is not", func(s *api.State) { x(s, 4).Places[0].Label = 6 }},
		{"an item in no room", func(s *api.State) { x(s, 0).Items[1].At.Slot = 1 }},
		{"an item above", func(s *api.State) { x(s, 0).Items[1].At = api.Ref{Label: 5, Slot: 1} }},
		{"an item beside", func(s *api.State) {
			x(s, 2).Items[0] = api.Item{Used: true, Name: "a", Kind: 2, At: api.Ref{Label: 1, Slot: 1}}
		}},
		{"an item in a hand that there is not", func(s *api.State) { x(s, 0).Items[0].Who = 3 }},
		{"an item in no trade", func(s *api.State) { x(s, 0).Items[0].Kind, x(s, 0).Items[0].Who = 3, 0 }},
		{"an item in a trade that there is not", func(s *api.State) { x(s, 0).Items[0].Kind, x(s, 0).Items[0].Who = 3, 2 }},
		{"an item in a trade of another item", func(s *api.State) { x(s, 0).Items[0].Kind = 3 }},
		{"an item in a trade of none", func(s *api.State) { x(s, 1).Items[2].Kind, x(s, 1).Items[2].Who = 3, 0 }},
		{"an item in another shelf's trade", func(s *api.State) { x(s, 2).Items[0].Kind = 3 }},
		{"a trade gives what is in a hand", func(s *api.State) { x(s, 0).Items[3].Kind = 1 }},
		{"a trade gives what lies", func(s *api.State) { x(s, 0).Items[3] = x(s, 0).Items[1] }},
		{"a trade gives what is not", func(s *api.State) { x(s, 0).Items[3] = api.Item{} }},
		{"a trade gives what is in another one", func(s *api.State) { x(s, 0).Trades[0] = x(s, 0).Trades[1]; x(s, 0).Trades[0].Give.Amount = 0 }},
		{"a trade gives a slot that there is not", func(s *api.State) { x(s, 0).Trades[1].Give.Item = 4 }},
		{"a trade wants a slot that there is not", func(s *api.State) { x(s, 0).Trades[1].Want.Item = 4 }},
		{"a trade that was is still told", func(s *api.State) { x(s, 5).Trades[1].Used = false }},
		{"a trade of an account that there is not", func(s *api.State) { x(s, 0).Trades[1].A = 3 }},
		{"a trade with one that there is not", func(s *api.State) { x(s, 0).Trades[1].B = 3 }},
		{"a trade with oneself", func(s *api.State) { x(s, 0).Trades[1].B = 2 }},
		{"a letter from above", func(s *api.State) { x(s, 0).Mails[1].Label = 1 }},
		{"a letter from beside", func(s *api.State) { x(s, 1).Mails[1].Label = 2 }},
		{"a letter from a label that there is not", func(s *api.State) { x(s, 5).Mails[1].Label = 6 }},
		{"a letter from an account that there is not", func(s *api.State) { x(s, 0).Mails[1].From = 3 }},
		{"a letter to one that there is not", func(s *api.State) { x(s, 0).Mails[1].To = 3 }},
		{"a letter without a text", func(s *api.State) { x(s, 0).Mails[1].Text = "" }},
	}
}

// wrongCoins are such changes of purses, and of what was made.
func wrongCoins(x func(s *api.State, place int) *api.Shelf) []change {
	return []change{
		{"a purse too few", func(s *api.State) { x(s, 5).Purses = x(s, 5).Purses[:2] }},
		{"a purse too many", func(s *api.State) { x(s, 5).Purses = append(x(s, 5).Purses, [4]uint64{}) }},
		{"minted above the cap", func(s *api.State) { x(s, 0).Minted[0], x(s, 4).Purses[2][0] = 1001, 971 }},
		{"minted where nothing may be", func(s *api.State) { x(s, 3).Minted[3], x(s, 3).Purses[0][3] = 1, 1 }},
		{"one coin more is held", func(s *api.State) { x(s, 3).Purses[0][3] = 1 }},
		{"one coin less is held", func(s *api.State) { x(s, 0).Purses[2][3] = 8 }},
		{"another coin is held", func(s *api.State) { x(s, 0).Purses[2] = [4]uint64{0, 0, 9, 0} }},
		{"one coin more was minted", func(s *api.State) { x(s, 0).Minted[3] = 21 }},
		{"one coin more was burned", func(s *api.State) { x(s, 3).Burned[3] = 1 }},
		{"a trade gives more than it holds", func(s *api.State) { x(s, 0).Trades[1].Give.Amount = 6 }},
		{"an order has another Reserve", func(s *api.State) { s.Orders[3].Reserve, x(s, 0).Purses[2][3] = 9, 8 }},
		{"what was reserved for an order is lost", func(s *api.State) { s.Orders[1] = api.Order{} }},
		{"more was burned than minted", func(s *api.State) {
			for i := range s.Shelves {
				for who := range 3 {
					x(s, i).Purses[who][1] = 0
				}
			}
			x(s, 0).Trades[1].Give.Amount, x(s, 0).Burned[1] = 0, 29
		}},
		{"sums that go round", func(s *api.State) {
			for i := range 4 {
				x(s, i).Purses[0][3] += 1 << 62
			}
		}},
		{"burned sums that go round", func(s *api.State) {
			for i := range 4 {
				x(s, i).Burned[3] += 1 << 62
			}
		}},
	}
}

// P21.1

func TestNew(t *testing.T) {
	s := fresh(t, town.Realm())
	shelf := func(n ...int) api.Shelf {
		return api.Shelf{
			Rooms: make([]api.Room, n[0]), Exits: make([]api.Exit, n[1]), Items: make([]api.Item, n[2]), Mails: make([]api.Mail, n[3]), Trades: make([]api.Trade, n[4]),
			Purses: make([][4]uint64, 3), Places: make([]api.Ref, 3),
		}
	}
	want := api.State{
		Shelves:  []api.Shelf{shelf(3, 3, 4, 2, 2), shelf(2, 2, 3, 2, 1), shelf(1, 1, 1, 1, 1), shelf(0, 0, 0, 0, 0), shelf(1, 2, 2, 1, 1), shelf(2, 3, 12, 3, 2)},
		Ranks:    [][]int{{0, 2, 0}, {2, 0, 0}},
		Orders:   make([]api.Order, 4),
		Sessions: []int{-1, -1, -1, -1, -1, -1},
	}
	want.Shelves[0].Rooms[0] = api.Room{Used: true, Name: "plaza"}
	if len(s.Audit) != 0 {
		t.Error("entries", s.Audit)
	}
	if s.Audit = nil; !reflect.DeepEqual(s, want) {
		t.Error(s)
	}
	for i, r := range town.Wrong() {
		if s, e := New(r); e != api.ErrArg || !reflect.DeepEqual(s, api.State{}) {
			t.Error("a realm that may not be", i, s, e)
		}
	}
}

func TestNewOfTheLeastAndTheFullOne(t *testing.T) {
	s := fresh(t, town.Least())
	if len(s.Shelves) != 1 || !slices.Equal(s.Shelves[0].Rooms, []api.Room{{Used: true, Name: "plaza"}}) || len(s.Ranks)+len(s.Orders) != 0 || !slices.Equal(s.Sessions, []int{-1}) {
		t.Error("the least one", s)
	}
	s = fresh(t, town.Full())
	for i, x := range s.Shelves {
		if sizes(x) != [...]int{12, 12, 12, 12, 12, 8, 8} || x.Rooms[0].Used != (i == 0) {
			t.Error("the full one", i, x)
		}
	}
	if len(s.Shelves) != 8 || len(s.Ranks) != 7 || len(s.Orders) != 24 || len(s.Sessions) != 8 {
		t.Error("the full one", s)
	}
}

func TestRight(t *testing.T) {
	for _, x := range fine() {
		s := town.State()
		x.do(&s)
		if l := faults(town.Realm(), s); !Right(town.Realm(), s) || l != nil {
			t.Error(x.what, "may be", l)
		}
	}
	for _, x := range wrong() {
		s := town.State()
		x.do(&s)
		if Right(town.Realm(), s) || faults(town.Realm(), s) == nil {
			t.Error(x.what, "may not be")
		}
	}
	for i, r := range town.Wrong() {
		if Right(r, town.State()) || Right(r, api.State{}) {
			t.Error("a realm that may not be", i)
		}
	}
}

func TestRightOfEachChange(t *testing.T) {
	may := 0
	for _, r := range []api.Realm{town.Realm(), town.Least()} {
		states := []api.State{fresh(t, r)}
		if len(r.Labels) > 1 {
			states = append(states, town.State())
		}
		for _, s := range states {
			eachChange(s, func(at string, s api.State) {
				l := faults(r, s)
				if Right(r, s) != (l == nil) {
					t.Error(at, Right(r, s), l)
				}
				if l == nil {
					may++
				}
			})
		}
	}
	if may < 100 {
		t.Error("few changes may be", may)
	}
}

// done does both changes to a state, if the other one can be done behind the first one.
func done(s *api.State, x, y change) (can bool) {
	defer func() { can = recover() == nil }()
	x.do(s)
	y.do(s)
	return true
}

func TestRightOfTwoChanges(t *testing.T) {
	r, few, may := town.Realm(), slices.Concat(fine(), wrong()), 0
	for _, x := range few {
		for _, y := range few {
			s := town.State()
			if !done(&s, x, y) {
				continue
			}
			l := faults(r, s)
			if Right(r, s) != (l == nil) {
				t.Error(x.what, "and", y.what, Right(r, s), l)
			}
			if l == nil {
				may++
			}
		}
	}
	if may < 100 {
		t.Error("few of them may be", may)
	}
}

func TestRightOfAnotherRealm(t *testing.T) {
	for i, r := range realms() {
		for j, q := range realms() {
			if Right(r, fresh(t, q)) != (i == j) {
				t.Error(i, j)
			}
		}
	}
	for _, do := range []func(r *api.Realm){
		func(r *api.Realm) { r.Lines = append(r.Lines, 0) },
		func(r *api.Realm) { r.Lines[4] = 3 },
		func(r *api.Realm) { r.Accounts = r.Accounts[:2] },
		func(r *api.Realm) { r.Accounts = append(r.Accounts, api.Account{Name: "dan", Secret: "s"}) },
		func(r *api.Realm) { r.Guilds[0].Founder = 2 },
		func(r *api.Realm) { r.Quotas[3].Items = 1 },
		func(r *api.Realm) { r.Quotas[5].Exits = 2 },
		func(r *api.Realm) { r.Quotas[4].Cap = 49 },
		func(r *api.Realm) { r.Orders = 5 },
		func(r *api.Realm) { r.Audits = 2 },
	} {
		r := town.Realm()
		if do(&r); !realm.Right(r) {
			t.Fatal("the realm may not be", r)
		}
		if Right(r, town.State()) {
			t.Error("of another realm", r)
		}
	}
	r := town.Realm()
	r.Audits, r.Rate, r.Rounds, r.Quotas[4].Cap = 3, 4, 16, 51
	r.Accounts[2] = api.Account{Name: "dan", Secret: "x"}
	if !Right(r, town.State()) {
		t.Error("a realm of which the state may be, too")
	}
}

// P21.2

func TestSame(t *testing.T) {
	for _, s := range []api.State{town.State(), fresh(t, town.Realm()), fresh(t, town.Least()), {}} {
		was := Clone(s)
		if !Same(s, was) || !Same(was, s) || !reflect.DeepEqual(s, was) && len(s.Audit) > 0 {
			t.Error("a clone is not the same", s, was)
		}
		eachChange(s, func(at string, now api.State) {
			if want := alike(reflect.ValueOf(was), reflect.ValueOf(now)); Same(was, now) != want || Same(now, was) != want {
				t.Error(at, "is not", want)
			}
		})
	}
	if Same(town.State(), fresh(t, town.Realm())) || Same(api.State{}, fresh(t, town.Least())) {
		t.Error("unlike ones are the same")
	}
}

// alike works out anew whether two values are the same.
func alike(a, b reflect.Value) bool {
	switch a.Kind() {
	case reflect.Struct:
		for i := range a.NumField() {
			if !alike(a.Field(i), b.Field(i)) {
				return false
			}
		}
		return true
	case reflect.Slice, reflect.Array:
		for i := range min(a.Len(), b.Len()) {
			if !alike(a.Index(i), b.Index(i)) {
				return false
			}
		}
		return a.Len() == b.Len()
	}
	return a.Interface() == b.Interface()
}

func TestNilIsEmpty(t *testing.T) {
	empty := api.State{
		Shelves: []api.Shelf{{Rooms: []api.Room{}, Exits: []api.Exit{}, Items: []api.Item{}, Mails: []api.Mail{}, Trades: []api.Trade{}, Purses: [][4]uint64{}, Places: []api.Ref{}}},
		Ranks:   [][]int{{}}, Orders: []api.Order{}, Audit: []api.Entry{}, Sessions: []int{},
	}
	bare := api.State{Shelves: make([]api.Shelf, 1), Ranks: make([][]int, 1)}
	if !Same(empty, bare) || !Same(bare, empty) || !Same(Clone(empty), bare) || !Same(Clone(bare), empty) {
		t.Error("nil and empty")
	}
	if !Same(api.State{}, api.State{Shelves: []api.Shelf{}, Ranks: [][]int{}}) || Same(api.State{}, bare) || Same(bare, api.State{Shelves: make([]api.Shelf, 1)}) {
		t.Error("lists without elements")
	}
	r := town.Realm()
	s := fresh(t, r)
	s.Shelves[3] = api.Shelf{Purses: s.Shelves[3].Purses, Places: s.Shelves[3].Places, Rooms: []api.Room{}, Mails: []api.Mail{}}
	if s.Audit = []api.Entry{}; !Right(r, s) {
		t.Error("empty lists")
	}
}

func TestCloneIsApart(t *testing.T) {
	for _, s := range []api.State{town.State(), fresh(t, town.Realm())} {
		was, now := Clone(s), Clone(s)
		for _, f := range of(&now) {
			if f.v.Kind() != reflect.Slice {
				f.v.SetZero()
			} else {
				_ = reflect.Append(f.v, reflect.Zero(f.v.Type().Elem()))
			}
		}
		if !Same(s, was) {
			t.Error("a change of the clone is one of the other")
		}
		one := Clone(s)
		for _, f := range of(&s) {
			if f.v.Kind() != reflect.Slice {
				f.v.SetZero()
			}
		}
		if !Same(one, was) || Same(one, s) {
			t.Error("a change of the other is one of the clone")
		}
	}
}

// numbered puts another number into each place of a state that has one, and tells how many of them keep it.
func numbered(s *api.State) (numbers, kept int) {
	n := 0
	isNumber := func(f field) bool { return f.v.Kind() == reflect.Int || f.v.Kind() == reflect.Uint64 }
	for _, f := range of(s) {
		if isNumber(f) {
			n++
			f.v.Set(reflect.ValueOf(n).Convert(f.v.Type()))
		}
	}
	for _, f := range of(s) {
		if isNumber(f) {
			numbers++
			if reflect.ValueOf(numbers).Convert(f.v.Type()).Equal(f.v) {
				kept++
			}
		}
	}
	return numbers, kept
}

// No two lists of one state share memory, and no two states.
func TestNewIsApart(t *testing.T) {
	r := town.Full()
	s, other := fresh(t, r), fresh(t, r)
	was := Clone(other)
	if n, kept := numbered(&s); n < 1000 || n != kept {
		t.Error("lists of the new state share memory", n, kept)
	}
	same := Clone(town.State())
	if n, kept := numbered(&same); n < 100 || n != kept {
		t.Error("lists of a clone share memory", n, kept)
	}
	if !Same(other, was) {
		t.Error("two new states share memory")
	}
	for i := range r.Lines {
		r.Lines[i], r.Labels[i], r.Quotas[i], r.Accounts[i] = 7, api.Label{}, api.Quota{}, api.Account{}
	}
	if !Same(other, was) {
		t.Error("the realm is kept")
	}
}

func TestBehindTheEnd(t *testing.T) {
	r, s := town.Realm(), town.State()
	for _, f := range slices.Backward(of(&s)) {
		if f.v.Kind() == reflect.Slice {
			n := f.v.Len()
			longer := reflect.MakeSlice(f.v.Type(), n, 2*n+3)
			reflect.Copy(longer, f.v)
			f.v.Set(longer)
		}
	}
	s.Sessions[:7][6] = 9
	s.Orders[:5][4] = api.Order{Used: true, Base: 2, Reserve: 7}
	s.Shelves[0].Rooms[:4][3] = api.Room{Used: true, Name: "cellar"}
	s.Shelves[1].Purses[:4][3] = [4]uint64{5, 5, 5, 5}
	s.Shelves[:7][6].Minted[0] = 99
	if !Right(r, s) || !Same(s, town.State()) || IsRoom(r, s, api.Ref{Slot: 3}) {
		t.Error("what lies behind is read")
	}
	if n, e := Held(s, 2); n != 1<<61+18 || e != api.OK {
		t.Error("what lies behind is held", n, e)
	}
	now := Clone(s)
	for _, f := range of(&now) {
		if f.v.Kind() == reflect.Slice && f.v.Cap() > f.v.Len() {
			if x := f.v.Slice(0, f.v.Len()+1).Index(f.v.Len()); !x.IsZero() {
				t.Error("what lies behind is handed out", f.at)
			}
		}
	}
	if s.Sessions[:7][6] != 9 || s.Shelves[:7][6].Minted[0] != 99 {
		t.Error("what lies behind is written")
	}
}

func TestIsRoom(t *testing.T) {
	r := town.Realm()
	there := []api.Ref{{Label: 0, Slot: 0}, {Label: 0, Slot: 2}, {Label: 1, Slot: 1}, {Label: 2, Slot: 0}, {Label: 4, Slot: 0}, {Label: 5, Slot: 1}}
	numbers := []int{math.MinInt, -128, -1, 0, 1, 2, 3, 4, 5, 6, 7, 127, 128, math.MaxInt}
	for _, i := range numbers {
		for _, j := range numbers {
			at := api.Ref{Label: i, Slot: j}
			if IsRoom(r, town.State(), at) != slices.Contains(there, at) {
				t.Error(at, IsRoom(r, town.State(), at))
			}
			if IsRoom(r, fresh(t, r), at) != (at == api.Ref{}) {
				t.Error("in the new state", at)
			}
		}
	}
	for _, x := range wrong() {
		s := town.State()
		if x.do(&s); IsRoom(r, s, api.Ref{}) || IsRoom(r, s, api.Ref{Label: 5, Slot: 1}) {
			t.Error("of a state that may not be", x.what)
		}
	}
	for i, r := range town.Wrong() {
		if IsRoom(r, town.State(), api.Ref{}) {
			t.Error("of a realm that may not be", i)
		}
	}
}

// noCoins are numbers that are no coins.
func noCoins() []int { return []int{math.MinInt, -256, -4, -1, 4, 5, 127, 256, 1 << 32, math.MaxInt} }

// amount holds what a call answers of a coin against what is wanted, with nothing beside an error.
func amount(t *testing.T, what string, n uint64, e api.Errno, want *big.Int, err api.Errno) {
	t.Helper()
	if err != api.OK {
		want = new(big.Int)
	}
	if e != err || new(big.Int).SetUint64(n).Cmp(want) != 0 {
		t.Error(what, "is", n, e, "and not", want, err)
	}
}

// reckoned holds what is told of each coin of any state against numbers without an end.
func reckoned(t *testing.T, what string, s api.State) {
	t.Helper()
	over := func(n *big.Int) bool { return n.Cmp(big.NewInt(most)) > 0 }
	for c := range 4 {
		held, minted, burned := sums(s, c)
		err := api.OK
		if over(held) {
			err = api.ErrOver
		}
		n, e := Held(s, c)
		amount(t, what+": held", n, e, held, err)
		err = api.OK
		switch {
		case over(minted) || over(burned):
			err = api.ErrOver
		case burned.Cmp(minted) > 0:
			err = api.ErrFunds
		}
		n, e = Made(s, c)
		amount(t, what+": made", n, e, new(big.Int).Sub(minted, burned), err)
	}
	for _, c := range noCoins() {
		n, e := Held(s, c)
		amount(t, what+": held of no coin", n, e, nil, api.ErrArg)
		n, e = Made(s, c)
		amount(t, what+": made of no coin", n, e, nil, api.ErrArg)
	}
}

func TestHeldAndMade(t *testing.T) {
	for c, want := range []uint64{123, 27, 1<<61 + 18, 28} {
		if n, e := Held(town.State(), c); n != want || e != api.OK {
			t.Error("held of", c, n, e)
		}
		if n, e := Made(town.State(), c); n != want || e != api.OK {
			t.Error("made of", c, n, e)
		}
	}
	reckoned(t, "nothing", api.State{})
	for _, x := range slices.Concat(fine(), wrong()) {
		s := town.State()
		x.do(&s)
		reckoned(t, x.what, s)
	}
	eachChange(town.State(), func(at string, s api.State) { reckoned(t, at, s) })
}

// Each of those that hold something alone, and all together, up to the limit and above it.
func TestHeldAtTheLimit(t *testing.T) {
	set := []func(s *api.State, n uint64){
		func(s *api.State, n uint64) { s.Shelves[0].Purses[1][2] = n },
		func(s *api.State, n uint64) { s.Shelves[2].Purses[0][2] = n },
		func(s *api.State, n uint64) {
			s.Shelves[0].Trades[0] = api.Trade{Used: true, Give: api.Part{Coin: 2, Amount: n}}
		},
		func(s *api.State, n uint64) {
			s.Shelves[2].Trades[1] = api.Trade{Used: true, Give: api.Part{Coin: 2, Amount: n}}
		},
		func(s *api.State, n uint64) { s.Orders[0] = api.Order{Used: true, Side: 2, Base: 2, Reserve: n} },
		func(s *api.State, n uint64) { s.Orders[1] = api.Order{Used: true, Side: 1, Quote: 2, Reserve: n} },
	}
	bare := func() api.State {
		return api.State{Shelves: []api.Shelf{{Purses: make([][4]uint64, 2), Trades: make([]api.Trade, 1)}, {}, {Purses: make([][4]uint64, 1), Trades: make([]api.Trade, 2)}}, Orders: make([]api.Order, 2)}
	}
	for i, one := range set {
		for _, n := range []uint64{0, 1, most - 1, most, most + 1, 1 << 63, math.MaxUint64} {
			s := bare()
			one(&s, n)
			reckoned(t, "one alone", s)
			for j, other := range set {
				for _, m := range []uint64{0, 1, 2, most, math.MaxUint64 - most + 1, math.MaxUint64 - n + 1} {
					if s := Clone(s); i != j {
						other(&s, m)
						reckoned(t, "two", s)
					}
				}
			}
		}
	}
	s := bare()
	s.Shelves[0].Trades[0] = api.Trade{Give: api.Part{Coin: 2, Amount: 5}}
	s.Orders[0] = api.Order{Side: 2, Base: 2, Reserve: 5}
	if n, e := Held(s, 2); n != 0 || e != api.OK {
		t.Error("what is not there holds nothing", n, e)
	}
}

func TestMadeAtTheLimit(t *testing.T) {
	numbers := []uint64{0, 1, most - 1, most, most + 1, 1 << 63, math.MaxUint64}
	for _, a := range numbers {
		for _, b := range numbers {
			for _, c := range numbers {
				for _, d := range numbers {
					s := api.State{Shelves: make([]api.Shelf, 3)}
					s.Shelves[0].Minted[1], s.Shelves[2].Minted[1] = a, b
					s.Shelves[0].Burned[1], s.Shelves[1].Burned[1] = c, d
					reckoned(t, "made", s)
				}
			}
		}
	}
}

func TestMe(t *testing.T) {
	r := town.Realm()
	for line, want := range []api.Me{{Line: 0, Label: 0, Who: 1}, {Line: 1, Label: 1, Who: 1}, {Line: 2, Label: 5, Who: 0}, {}, {}, {Line: 5, Label: 0, Who: 0}} {
		err := []api.Errno{api.OK, api.OK, api.OK, api.ErrState, api.ErrDenied, api.OK}[line]
		if me, e := Me(r, town.State(), line); me != want || e != err {
			t.Error(line, me, e)
		}
	}
	for _, line := range []int{math.MinInt, -2, -1, 6, 7, 127, math.MaxInt} {
		if me, e := Me(r, town.State(), line); me != (api.Me{}) || e != api.ErrArg {
			t.Error("no line", line, me, e)
		}
	}
	for line := -1; line < 7; line++ {
		for _, x := range wrong() {
			s := town.State()
			x.do(&s)
			if me, e := Me(r, s, line); me != (api.Me{}) || e != api.ErrArg {
				t.Error(x.what, line, me, e)
			}
		}
		for i, r := range town.Wrong() {
			if me, e := Me(r, town.State(), line); me != (api.Me{}) || e != api.ErrArg {
				t.Error("a realm that may not be", i, me, e)
			}
		}
	}
}

// Whoever sits, with whichever ranks, is cleared or not as layer 14 says.
func TestMeOfAll(t *testing.T) {
	r, s := town.Realm(), town.State()
	for _, rank := range []int{0, 1, 2} {
		s.Ranks = [][]int{{rank, 2, 2 - rank}, {2, rank, rank}}
		for line, place := range r.Lines {
			for who := -1; who < 3; who++ {
				s.Sessions[line] = who
				want, err := api.Me{Line: line, Label: place, Who: who}, api.OK
				if who < 0 {
					want, err = api.Me{}, api.ErrState
				} else if !hall.Cleared(r, s.Ranks, who, place) {
					want, err = api.Me{}, api.ErrDenied
				}
				if me, e := Me(r, s, line); me != want || e != err {
					t.Error(s.Ranks, line, who, me, e)
				}
			}
		}
	}
}

func TestIsMe(t *testing.T) {
	r := town.Realm()
	numbers := []int{math.MinInt, -128, -2, -1, 0, 1, 2, 3, 4, 5, 6, 7, 128, math.MaxInt}
	for _, line := range numbers {
		for _, place := range numbers {
			for _, who := range numbers {
				want := line >= 0 && line <= 5 && who >= 0 && who <= 2 && place == []int{0, 1, 5, 2, 4, 0}[line]
				me := api.Me{Line: line, Label: place, Who: who}
				if IsMe(r, town.State(), me) != want {
					t.Error(me, "is not", want)
				}
			}
		}
	}
	me := api.Me{Line: 1, Label: 1, Who: 2}
	for _, x := range fine() {
		s := town.State()
		if x.do(&s); !IsMe(r, s, me) {
			t.Error("whoever sits there", x.what)
		}
	}
	for _, x := range wrong() {
		s := town.State()
		if x.do(&s); IsMe(r, s, me) {
			t.Error("of a state that may not be", x.what)
		}
	}
	for i, r := range town.Wrong() {
		if IsMe(r, town.State(), me) {
			t.Error("of a realm that may not be", i)
		}
	}
}

// P21.3

func TestTheNewStateMayBe(t *testing.T) {
	for _, r := range realms() {
		s := fresh(t, r)
		if !Right(r, s) || faults(r, s) != nil || !IsRoom(r, s, api.Ref{}) {
			t.Error("it may not be", faults(r, s))
		}
		for c := range 4 {
			if n, e := Held(s, c); n != 0 || e != api.OK {
				t.Error("held", c, n, e)
			}
			if n, e := Made(s, c); n != 0 || e != api.OK {
				t.Error("made", c, n, e)
			}
		}
		for i := range s.Shelves {
			for slot := range s.Shelves[i].Rooms {
				if IsRoom(r, s, api.Ref{Label: i, Slot: slot}) != (i == 0 && slot == 0) {
					t.Error("a room", i, slot)
				}
			}
		}
	}
}

// P21.4

// holders is how many there are of an item: hands, rooms and trades.
func holders(r api.Realm, s api.State, place, i int) int {
	n, x := 0, s.Shelves[place]
	for who := range r.Accounts {
		if slices.Contains(thing.Held(x.Items, who), i) {
			n++
		}
	}
	for j, y := range s.Shelves {
		for slot := range y.Rooms {
			at := api.Ref{Label: j, Slot: slot}
			if y.Rooms[slot].Used && slices.Contains(thing.Lying(x.Items, at), i) {
				n++
			}
		}
	}
	for slot, y := range x.Trades {
		if y.Used && y.Give.Item == i && x.Items[i].Kind == 3 && x.Items[i].Who == slot {
			n++
		}
	}
	return n
}

func TestOneHolderAndNothingLost(t *testing.T) {
	r, items := town.Realm(), 0
	look := func(at string, s api.State) {
		if !Right(r, s) {
			return
		}
		for place, x := range s.Shelves {
			for i, y := range x.Items {
				if y.Used {
					items++
				}
				if y.Used && holders(r, s, place, i) != 1 {
					t.Error(at, place, i, "holders", holders(r, s, place, i))
				}
			}
		}
		for c := range 4 {
			held, e := Held(s, c)
			made, f := Made(s, c)
			if e != api.OK || f != api.OK || held != made || held > most {
				t.Error(at, c, held, e, made, f)
			}
		}
	}
	for _, x := range slices.Concat(fine(), wrong()) {
		s := town.State()
		x.do(&s)
		look(x.what, s)
	}
	eachChange(town.State(), look)
	if items < 100 {
		t.Error("few items", items)
	}
}

// The rules that hold everywhere

func TestNotChanged(t *testing.T) {
	r, s := town.Realm(), town.State()
	q, was := town.Realm(), Clone(s)
	for c := -1; c < 5; c++ {
		_, _ = Held(s, c)
		_, _ = Made(s, c)
	}
	for n := -1; n < 7; n++ {
		_, _ = Me(r, s, n)
		_ = IsMe(r, s, api.Me{Line: n})
		_ = IsRoom(r, s, api.Ref{Label: n})
	}
	if !Right(r, s) || !Same(s, was) || !reflect.DeepEqual(r, q) {
		t.Error("changed")
	}
}

// Whatever is handed in, each call ends, and none panics.
func TestAnything(t *testing.T) {
	huge := api.State{Shelves: make([]api.Shelf, 1<<16), Ranks: make([][]int, 1<<16), Sessions: make([]int, 1<<16), Orders: make([]api.Order, 1<<16), Audit: make([]api.Entry, 1<<16)}
	wild := town.State()
	for _, f := range of(&wild) {
		switch f.v.Kind() {
		case reflect.Int:
			f.v.SetInt(math.MinInt)
		case reflect.Uint64:
			f.v.SetUint(math.MaxUint64)
		case reflect.Bool:
			f.v.SetBool(true)
		}
	}
	for _, s := range []api.State{{}, huge, wild} {
		for _, r := range append(town.Wrong(), realms()...) {
			if Right(r, s) || IsRoom(r, s, api.Ref{}) || IsMe(r, s, api.Me{}) {
				t.Error("it may be", r)
			}
			if _, e := Me(r, s, 0); e != api.ErrArg {
				t.Error("Me", e)
			}
		}
		if !Same(s, Clone(s)) {
			t.Error("not the same")
		}
		reckoned(t, "anything", s)
	}
}
