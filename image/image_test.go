package image

import (
	"bytes"
	"math"
	"reflect"
	"slices"
	"strconv"
	"strings"
	"testing"

	"rialto/api"
	"rialto/bound"
	"rialto/state"
	"rialto/town"
)

// sample is a state, and the realm that it is of.
type sample struct {
	what string
	r    api.Realm
	s    api.State
}

// hut is a realm of two labels, of which one has no slots.
func hut() api.Realm {
	return api.Realm{
		Labels:   []api.Label{{}, {Comps: 1 << 2}},
		Lines:    []int{0, 1, 1},
		Accounts: []api.Account{{Name: "ann", Secret: "a", Mints: true}, {Name: "bob", Secret: "b"}},
		Guilds:   []api.Guild{{Bit: 2, Founder: 1}},
		Quotas:   []api.Quota{{Rooms: 2, Exits: 1, Items: 4, Mails: 2, Trades: 2, Cap: 1 << 40}, {}},
		Orders:   2, Audits: 3, Rate: 1, Rounds: 1,
	}
}

// hutState is a state of it.
func hutState() api.State {
	plaza := api.Ref{}
	return api.State{
		Round: 0x0102030405,
		Shelves: []api.Shelf{
			{
				Rooms: []api.Room{{Used: true, Name: "plaza"}, {}},
				Exits: []api.Exit{{Used: true, From: plaza, To: plaza, Dir: 5}},
				Items: []api.Item{
					{Used: true, Name: "lamp", Kind: api.InHand, Who: 1},
					{},
					{Used: true, Name: "ax", Kind: api.InTrade, Who: 1},
					{Used: true, Name: "k", Kind: api.InRoom, At: plaza},
				},
				Mails:  []api.Mail{{Used: true, Label: 0, From: 1, To: 0, Text: "to you"}, {}},
				Trades: []api.Trade{{}, {Used: true, A: 1, B: 0, Give: api.Part{Coin: 2, Amount: 3, Item: 2}, Want: api.Part{Coin: 1, Amount: 256, Item: -1}}},
				Purses: [][api.Coins]uint64{{1, 2, 0, 0}, {0, 0, 4, 0}},
				Places: []api.Ref{plaza, plaza},
				Minted: [api.Coins]uint64{1 << 40, 2, 8, 9},
				Burned: [api.Coins]uint64{1<<40 - 1, 0, 0, 0},
			},
			{
				Purses: [][api.Coins]uint64{{}, {0, 0, 0, 5}},
				Places: []api.Ref{plaza, plaza},
				Burned: [api.Coins]uint64{0, 0, 1, 0},
			},
		},
		Ranks:    [][]int{{1, 2}},
		Orders:   []api.Order{{}, {Used: true, Label: 1, Who: 0, Side: api.Buy, Base: 0, Quote: 3, Price: 2, Left: 2, Reserve: 4, Seq: 1}},
		Sessions: []int{1, -1, 0},
		Audit: []api.Entry{
			{Round: 7, Line: 2, Label: 1, Who: 1, Side: api.Pull, Slot: 1},
			{Round: 258, Line: 1, Label: 1, Who: 0, Side: api.Buy, Base: 0, Quote: 3, Qty: 6, Price: 2},
		},
	}
}

// hutBytes is its bytes.
func hutBytes() []byte {
	return slices.Concat(
		[]byte{0, 0, 0, 1, 2, 3, 4, 5},
		[]byte{1, 255, 0},
		[]byte{1, 2},

		[]byte{1, 5, 'p', 'l', 'a', 'z', 'a'}, []byte{0},
		[]byte{1, 0, 0, 0, 0, 5},
		[]byte{1, 4, 'l', 'a', 'm', 'p', 1, 1, 0, 0}, []byte{0}, []byte{1, 2, 'a', 'x', 3, 1, 0, 0}, []byte{1, 1, 'k', 2, 0, 0, 0},
		[]byte{1, 0, 1, 0, 6, 't', 'o', ' ', 'y', 'o', 'u'}, []byte{0},
		[]byte{0}, []byte{1, 1, 0, 2, 0, 0, 0, 0, 0, 0, 0, 3, 2, 1, 0, 0, 0, 0, 0, 0, 1, 0, 255},
		[]byte{0, 0, 0, 0, 0, 0, 0, 1, 0, 0, 0, 0, 0, 0, 0, 2, 0, 0, 0, 0, 0, 0, 0, 0, 0, 0, 0, 0, 0, 0, 0, 0},
		[]byte{0, 0, 0, 0, 0, 0, 0, 0, 0, 0, 0, 0, 0, 0, 0, 0, 0, 0, 0, 0, 0, 0, 0, 4, 0, 0, 0, 0, 0, 0, 0, 0},
		[]byte{0, 0, 0, 0},
		[]byte{0, 0, 1, 0, 0, 0, 0, 0, 0, 0, 0, 0, 0, 0, 0, 2, 0, 0, 0, 0, 0, 0, 0, 8, 0, 0, 0, 0, 0, 0, 0, 9},
		[]byte{0, 0, 0, 255, 255, 255, 255, 255, 0, 0, 0, 0, 0, 0, 0, 0, 0, 0, 0, 0, 0, 0, 0, 0, 0, 0, 0, 0, 0, 0, 0, 0},

		make([]byte, 32),
		[]byte{0, 0, 0, 0, 0, 0, 0, 0, 0, 0, 0, 0, 0, 0, 0, 0, 0, 0, 0, 0, 0, 0, 0, 0, 0, 0, 0, 0, 0, 0, 0, 5},
		[]byte{0, 0, 0, 0},
		make([]byte, 32),
		[]byte{0, 0, 0, 0, 0, 0, 0, 0, 0, 0, 0, 0, 0, 0, 0, 0, 0, 0, 0, 0, 0, 0, 0, 1, 0, 0, 0, 0, 0, 0, 0, 0},

		[]byte{0}, []byte{1, 1, 0, 1, 0, 3, 0, 0, 0, 0, 0, 0, 0, 2, 0, 0, 0, 0, 0, 0, 0, 2, 1},

		[]byte{2},
		[]byte{0, 0, 0, 0, 0, 0, 0, 7, 2, 1, 1, 3, 0, 0, 0, 0, 0, 0, 0, 0, 0, 0, 0, 0, 0, 0, 0, 0, 0, 0, 1},
		[]byte{0, 0, 0, 0, 0, 0, 1, 2, 1, 1, 0, 1, 0, 3, 0, 0, 0, 0, 0, 0, 0, 6, 0, 0, 0, 0, 0, 0, 0, 2, 0},
	)
}

// fresh is the new state of a realm.
func fresh(r api.Realm) api.State {
	s, _ := state.New(r)
	return s
}

// samples are states that may be.
func samples() []sample {
	out := []sample{{"the hut", hut(), hutState()}, {"the town", town.Realm(), town.State()}}
	for i, r := range []api.Realm{hut(), town.Realm(), town.Least(), town.Full()} {
		n := strconv.Itoa(i)
		out = append(out, sample{"new " + n, r, fresh(r)}, sample{"packed " + n, r, town.Packed(r)})
	}
	for i, do := range []func(s *api.State){
		func(s *api.State) { s.Round = 1 << 62 },
		func(s *api.State) { s.Sessions = []int{-1, -1, -1, -1, -1, -1} },
		func(s *api.State) { s.Sessions = []int{0, 1, 2, 2, 1, 0} },
		func(s *api.State) { s.Ranks = [][]int{{0, 2, 2}, {2, 1, 0}} },
		func(s *api.State) { s.Orders[1].Seq, s.Orders[3].Seq = 2, 1 },
		func(s *api.State) {
			s.Audit = append(s.Audit, api.Entry{Round: 9, Line: 5, Who: 2, Side: 3, Slot: 127})
		},
		func(s *api.State) { s.Orders[0], s.Orders[1] = s.Orders[1], api.Order{} },
		func(s *api.State) { s.Shelves[0].Rooms[0].Name = "square" },
		func(s *api.State) { s.Shelves[0].Rooms[1] = api.Room{Used: true, Name: strings.Repeat("z", 12)} },
		func(s *api.State) { s.Shelves[0].Mails[0] = api.Mail{Used: true, Text: strings.Repeat("~", 40)} },
		func(s *api.State) { s.Shelves[5].Mails[2] = api.Mail{Used: true, Label: 3, From: 2, To: 1, Text: "a"} },
		func(s *api.State) { s.Shelves[5].Trades[1].Want = api.Part{Coin: 3, Amount: 1 << 62, Item: 4} },
		func(s *api.State) { s.Shelves[5].Minted[1], s.Shelves[3].Purses[0][1] = 1<<61, 1<<61 },
		func(s *api.State) { s.Shelves[5].Purses[0][2], s.Shelves[3].Burned[2] = 15, 1<<61 },
	} {
		s := town.State()
		do(&s)
		out = append(out, sample{"the town, changed by " + strconv.Itoa(i), town.Realm(), s})
	}
	return out
}

// wrongStates are changes behind which the town's state may not be, though it has all numbers of slots, and all that stands there has a place in the bytes.
func wrongStates() []func(s *api.State) {
	return []func(s *api.State){
		func(s *api.State) { s.Round = 1<<62 + 1 },
		func(s *api.State) { s.Round = math.MaxUint64 },
		func(s *api.State) { s.Round = 8 },
		func(s *api.State) { s.Sessions[0] = 3 },
		func(s *api.State) { s.Sessions[5] = 254 },
		func(s *api.State) { s.Ranks[0][0] = 3 },
		func(s *api.State) { s.Ranks[1][0] = 1 },
		func(s *api.State) { s.Ranks[1][2] = 255 },
		func(s *api.State) { s.Shelves[0].Rooms[2].Name = "" },
		func(s *api.State) { s.Shelves[0].Rooms[2].Name = "Yard" },
		func(s *api.State) { s.Shelves[0].Rooms[0] = api.Room{} },
		func(s *api.State) { s.Shelves[4].Rooms[0] = api.Room{} },
		func(s *api.State) { s.Shelves[0].Exits[0].Dir = 6 },
		func(s *api.State) { s.Shelves[0].Exits[0].To.Slot = 1 },
		func(s *api.State) { s.Shelves[0].Exits[0].From.Label = 255 },
		func(s *api.State) { s.Shelves[0].Exits[2] = s.Shelves[0].Exits[0] },
		func(s *api.State) { s.Shelves[0].Items[0].Kind = 0 },
		func(s *api.State) { s.Shelves[0].Items[0].Kind = 4 },
		func(s *api.State) { s.Shelves[0].Items[0].Who = 3 },
		func(s *api.State) { s.Shelves[0].Items[0].At.Slot = 2 },
		func(s *api.State) { s.Shelves[0].Items[0].Name = "a lamp" },
		func(s *api.State) { s.Shelves[0].Items[3] = api.Item{} },
		func(s *api.State) { s.Shelves[0].Mails[1].Text = "" },
		func(s *api.State) { s.Shelves[0].Mails[1].Text = " come" },
		func(s *api.State) { s.Shelves[0].Mails[1].Label = 1 },
		func(s *api.State) { s.Shelves[0].Mails[1].To = 3 },
		func(s *api.State) { s.Shelves[0].Trades[1].B = 2 },
		func(s *api.State) { s.Shelves[0].Trades[1].Give.Item = -1 },
		func(s *api.State) { s.Shelves[0].Trades[1].Want.Item = 254 },
		func(s *api.State) { s.Shelves[0].Trades[1].Want.Coin = 4 },
		func(s *api.State) { s.Shelves[0].Trades[1].Give.Amount = 6 },
		func(s *api.State) { s.Shelves[3].Purses[0][3] = 1 },
		func(s *api.State) { s.Shelves[3].Purses[2][0] = math.MaxUint64 },
		func(s *api.State) { s.Shelves[3].Places[1] = api.Ref{Label: 1, Slot: 1} },
		func(s *api.State) { s.Shelves[0].Minted[3]++ },
		func(s *api.State) { s.Shelves[0].Burned[3]++ },
		func(s *api.State) { s.Orders[1].Side = 3 },
		func(s *api.State) { s.Orders[1].Side, s.Orders[1].Left, s.Orders[1].Price = 1, 1<<40, 1<<40 },
		func(s *api.State) { s.Orders[1].Left = 0 },
		func(s *api.State) { s.Orders[1].Price = 0 },
		func(s *api.State) { s.Orders[1].Left = 4 },
		func(s *api.State) { s.Orders[1].Quote = 0 },
		func(s *api.State) { s.Orders[1].Seq = 3 },
		func(s *api.State) { s.Orders[1].Seq = 2 },
		func(s *api.State) { s.Audit[0], s.Audit[1] = s.Audit[1], s.Audit[0] },
		func(s *api.State) { s.Audit[2].Label = 3 },
		func(s *api.State) { s.Audit[2].Line = 6 },
		func(s *api.State) { s.Audit = s.Audit[:2] },
	}
}

// script is what is written of a state, by another hand, and where things of some kinds stand there.
type script struct {
	b  []byte
	at map[string][]int
}

func (x *script) mark(what string) { x.at[what] = append(x.at[what], len(x.b)) }

func (x *script) small(l ...int) {
	for _, n := range l {
		x.b = append(x.b, byte(n))
	}
}

func (x *script) great(l ...uint64) {
	for _, n := range l {
		for shift := 56; shift >= 0; shift -= 8 {
			x.b = append(x.b, byte(n>>shift))
		}
	}
}

func (x *script) words(kind, s string) {
	x.mark(kind)
	x.small(len(s))
	x.b = append(x.b, s...)
}

func (x *script) used(so bool) bool {
	x.mark("used")
	if so {
		x.small(1)
	} else {
		x.small(0)
	}
	return so
}

// written writes any state.
func written(s api.State) *script {
	x := &script{at: map[string][]int{}}
	x.great(s.Round)
	x.small(s.Sessions...)
	for _, row := range s.Ranks {
		x.small(row...)
	}
	for _, y := range s.Shelves {
		x.shelf(y)
	}
	for _, o := range s.Orders {
		if x.used(o.Used) {
			x.small(o.Label, o.Who, o.Side, o.Base, o.Quote)
			x.great(o.Price, o.Left)
			x.small(o.Seq)
		}
	}
	x.mark("count")
	x.small(len(s.Audit))
	for _, y := range s.Audit {
		x.mark("entry")
		x.great(y.Round)
		x.small(y.Line, y.Label, y.Who, y.Side, y.Base, y.Quote)
		x.great(y.Qty, y.Price)
		x.small(y.Slot)
	}
	return x
}

func (x *script) shelf(y api.Shelf) {
	for _, z := range y.Rooms {
		if x.used(z.Used) {
			x.words("name", z.Name)
		}
	}
	for _, z := range y.Exits {
		if x.used(z.Used) {
			x.small(z.From.Label, z.From.Slot, z.To.Label, z.To.Slot, z.Dir)
		}
	}
	for _, z := range y.Items {
		if x.used(z.Used) {
			x.words("name", z.Name)
			x.small(z.Kind, z.Who, z.At.Label, z.At.Slot)
		}
	}
	for _, z := range y.Mails {
		if x.used(z.Used) {
			x.small(z.Label, z.From, z.To)
			x.words("text", z.Text)
		}
	}
	for _, z := range y.Trades {
		if x.used(z.Used) {
			x.small(z.A, z.B)
			for _, p := range []api.Part{z.Give, z.Want} {
				x.small(p.Coin)
				x.great(p.Amount)
				x.small(p.Item)
			}
		}
	}
	for _, p := range y.Purses {
		x.great(p[:]...)
	}
	for _, at := range y.Places {
		x.small(at.Label, at.Slot)
	}
	x.great(y.Minted[:]...)
	x.great(y.Burned[:]...)
}

// refused tells whether bytes are answered with an error and nothing else.
func refused(t *testing.T, what any, r api.Realm, b []byte, want api.Errno) {
	t.Helper()
	if s, e := Read(r, b); e != want || !reflect.DeepEqual(s, api.State{}) {
		t.Error(what, "is", e, "and not", want, s)
	}
}

// with is bytes with another one at a place.
func with(b []byte, at, n int) []byte {
	out := slices.Clone(b)
	out[at] = byte(n)
	return out
}

// P23.1

func TestBytes(t *testing.T) {
	if got := Bytes(hut(), hutState()); !bytes.Equal(got, hutBytes()) {
		t.Error("the hut", got)
	}
	for _, x := range samples() {
		if want := written(x.s).b; !bytes.Equal(Bytes(x.r, x.s), want) {
			t.Error(x.what, Bytes(x.r, x.s), "is not", want)
		}
	}
}

func TestExample(t *testing.T) {
	s := fresh(town.Least())
	s.Round = 0x0102030405060708
	want := slices.Concat([]byte{1, 2, 3, 4, 5, 6, 7, 8, 255, 1, 5}, []byte("plaza"), make([]byte, 32+2+64+1))
	if got := Bytes(town.Least(), s); !bytes.Equal(got, want) {
		t.Error("the least one", got)
	}
}

func TestBytesOfNone(t *testing.T) {
	for i, r := range town.Wrong() {
		if b := Bytes(r, town.State()); len(b) != 0 {
			t.Error("a realm that may not be", i, b)
		}
		if b := Bytes(r, api.State{}); len(b) != 0 {
			t.Error("nothing, in a realm that may not be", i, b)
		}
	}
	for i, do := range wrongStates() {
		s := town.State()
		do(&s)
		if b := Bytes(town.Realm(), s); len(b) != 0 {
			t.Error("a state that may not be", i, b)
		}
	}
	for i, s := range []api.State{
		{}, hutState(), {Shelves: make([]api.Shelf, 6)}, {Shelves: make([]api.Shelf, 1<<16), Sessions: make([]int, 1<<16), Audit: make([]api.Entry, 1<<16)},
	} {
		if b := Bytes(town.Realm(), s); len(b) != 0 {
			t.Error("a state of another realm", i, b)
		}
	}
	for i, do := range []func(s *api.State){
		func(s *api.State) { s.Shelves[0].Rooms[1].Name = "hidden" },
		func(s *api.State) { s.Shelves[0].Exits[1].Dir = 1 },
		func(s *api.State) { s.Shelves[0].Items[2].Kind = 1 },
		func(s *api.State) { s.Shelves[0].Mails[0].Text = "hidden" },
		func(s *api.State) { s.Shelves[0].Trades[0].Give.Item = -1 },
		func(s *api.State) { s.Orders[0].Seq = 1 },
		func(s *api.State) { s.Orders[1].Reserve = 4 },
		func(s *api.State) { s.Sessions[0] = -2 },
		func(s *api.State) { s.Sessions[0] = 255 },
		func(s *api.State) { s.Sessions[0] = 256 },
		func(s *api.State) { s.Shelves[0].Trades[1].Want.Item = -2 },
		func(s *api.State) { s.Shelves[0].Items = append(s.Shelves[0].Items, api.Item{}) },
	} {
		s := town.State()
		do(&s)
		if b := Bytes(town.Realm(), s); len(b) != 0 {
			t.Error("what has no place in the bytes", i, b)
		}
	}
}

// P23.2

func TestRead(t *testing.T) {
	if s, e := Read(hut(), hutBytes()); e != api.OK || !state.Same(s, hutState()) {
		t.Error("the hut", s, e)
	}
	for _, x := range samples() {
		if s, e := Read(x.r, written(x.s).b); e != api.OK || !state.Same(s, x.s) {
			t.Error(x.what, s, e)
		}
	}
}

func TestWrongRealm(t *testing.T) {
	for i, r := range town.Wrong() {
		for _, b := range [][]byte{nil, {}, {1}, make([]byte, 4096), written(town.State()).b} {
			refused(t, i, r, b, api.ErrArg)
		}
	}
}

func TestMissingBytes(t *testing.T) {
	for _, x := range samples() {
		b := written(x.s).b
		step := 1 + len(b)/2000
		for n := 0; n < len(b); n += step {
			refused(t, x.what+" cut at "+strconv.Itoa(n), x.r, b[:n], api.ErrShort)
		}
		refused(t, x.what+" without the last one", x.r, b[:len(b)-1], api.ErrShort)
	}
	refused(t, "nil", hut(), nil, api.ErrShort)
}

func TestBytesLeft(t *testing.T) {
	for _, x := range samples() {
		b := written(x.s).b
		for _, more := range [][]byte{{0}, {255}, make([]byte, 31), make([]byte, 1<<16), b} {
			refused(t, x.what, x.r, slices.Concat(b, more), api.ErrLong)
		}
	}
}

func TestWrongState(t *testing.T) {
	r := town.Realm()
	for i, do := range wrongStates() {
		s := town.State()
		do(&s)
		b := written(s).b
		refused(t, i, r, b, api.ErrForm)
		refused(t, i, r, append(slices.Clone(b), 0), api.ErrLong)
		refused(t, i, r, b[:len(b)-1], api.ErrShort)
	}
}

// A byte that says whether a slot is Used is 0 or 1, whatever is missing behind it, or left.
func TestWrongUsed(t *testing.T) {
	for _, x := range []sample{{"the hut", hut(), hutState()}, {"the town", town.Realm(), town.State()}, {"packed", hut(), town.Packed(hut())}} {
		y := written(x.s)
		for _, at := range y.at["used"] {
			for _, n := range []int{2, 3, 127, 128, 254, 255} {
				b := with(y.b, at, n)
				refused(t, x.what+" at "+strconv.Itoa(at), x.r, b, api.ErrForm)
				refused(t, x.what+" left", x.r, append(b, 0), api.ErrForm)
				refused(t, x.what+" cut", x.r, b[:at+1], api.ErrForm)
				refused(t, x.what+" cut ahead", x.r, b[:at], api.ErrShort)
			}
		}
	}
}

func TestLongNamesAndTexts(t *testing.T) {
	for _, x := range []sample{{"the hut", hut(), hutState()}, {"the town", town.Realm(), town.State()}} {
		y := written(x.s)
		for what, most := range map[string]int{"name": 12, "text": 40} {
			if len(y.at[what]) < 2-most/40 {
				t.Error("few", what)
			}
			for _, at := range y.at[what] {
				for _, n := range []int{most + 1, most + 2, 128, 255} {
					b := with(y.b, at, n)
					refused(t, x.what+what, x.r, b, api.ErrForm)
					refused(t, x.what+what+" cut", x.r, b[:at+1], api.ErrForm)
					refused(t, x.what+what+" cut ahead", x.r, b[:at], api.ErrShort)
					refused(t, x.what+what+" with bytes", x.r, slices.Concat(b[:at+1], bytes.Repeat([]byte("a"), n-1), b[at:]), api.ErrForm)
				}
				refused(t, x.what+what+" that ends too soon", x.r, with(y.b, at, most)[:at+most], api.ErrShort)
			}
		}
	}
}

func TestWrongEntries(t *testing.T) {
	r, y := hut(), written(hutState())
	count := y.at["count"][0]
	for _, n := range []int{4, 5, 48, 49, 127, 128, 255} {
		b := with(y.b, count, n)
		refused(t, n, r, b, api.ErrForm)
		refused(t, n, r, b[:count+1], api.ErrForm)
		refused(t, n, r, slices.Concat(b, bytes.Repeat(b[count+1:count+32], n-2)), api.ErrForm)
	}
	refused(t, "one more", r, with(y.b, count, 3), api.ErrShort)
	refused(t, "one less", r, with(y.b, count, 1), api.ErrLong)
	refused(t, "none", r, with(y.b, count, 0), api.ErrLong)
	for i, at := range y.at["entry"] {
		for _, side := range []int{0, 4, 255} {
			b := with(y.b, at+11, side)
			refused(t, i, r, b, api.ErrForm)
			refused(t, i, r, append(b, 0), api.ErrForm)
			refused(t, i, r, b[:at+31], api.ErrForm)
			refused(t, i, r, b[:at+30], api.ErrShort)
		}
		refused(t, "a label", r, with(y.b, at+9, 128), api.ErrForm)
		refused(t, "a label, and more", r, append(with(y.b, at+9, 128), 0), api.ErrForm)
		refused(t, "a slot", r, with(y.b, at+30, 128), api.ErrForm)
		// An entry that may be, but not in this state.
		refused(t, "another label", r, with(y.b, at+9, 0), api.ErrForm)
		refused(t, "another label, and more", r, append(with(y.b, at+9, 0), 0), api.ErrLong)
	}
	least := written(fresh(town.Least()))
	b := with(least.b, len(least.b)-1, 1)
	refused(t, "an entry where there may be none", town.Least(), b, api.ErrForm)
}

// What is met first is told.
func TestFirstFault(t *testing.T) {
	r, y := hut(), written(hutState())
	used, name, count, entry := y.at["used"], y.at["name"], y.at["count"][0], y.at["entry"]
	refused(t, "a Used byte ahead of a cut", r, with(y.b, used[0], 7)[:used[3]], api.ErrForm)
	refused(t, "a cut ahead of a Used byte", r, with(y.b, used[3], 7)[:used[3]], api.ErrShort)
	refused(t, "a name ahead of a cut", r, with(y.b, name[1], 13)[:count], api.ErrForm)
	refused(t, "a session that may not be, and a cut", r, with(y.b, 8, 9)[:count], api.ErrShort)
	refused(t, "a session that may not be, and a byte more", r, append(with(y.b, 8, 9), 0), api.ErrLong)
	refused(t, "an entry ahead of a cut", r, with(y.b, entry[0]+11, 9)[:entry[1]+3], api.ErrForm)
	refused(t, "a cut ahead of an entry", r, with(y.b, entry[1]+11, 9)[:entry[1]+30], api.ErrShort)
	refused(t, "an order that may not be, and a cut", r, with(y.b, count-1, 9)[:entry[1]], api.ErrShort)
	refused(t, "an order that may not be, and a byte more", r, append(with(y.b, count-1, 9), 0), api.ErrLong)
}

// P23.3

func TestReadAgain(t *testing.T) {
	for _, x := range samples() {
		b := Bytes(x.r, x.s)
		s, e := Read(x.r, b)
		if e != api.OK || !state.Same(s, x.s) || !bytes.Equal(Bytes(x.r, s), b) {
			t.Error(x.what, s, e)
		}
	}
}

// Of bytes that are read just the state's own ones are.
func TestNothingElseIsRead(t *testing.T) {
	read, tried := 0, 0
	try := func(what string, r api.Realm, b []byte) {
		tried++
		s, e := Read(r, b)
		switch e {
		case api.OK:
			read++
			if !bytes.Equal(Bytes(r, s), b) {
				t.Error(what, "is read, and not the bytes of what it is")
			}
		case api.ErrShort, api.ErrLong, api.ErrForm:
			if !reflect.DeepEqual(s, api.State{}) {
				t.Error(what, "is refused, and told", s)
			}
		default:
			t.Error(what, e)
		}
	}
	r, b := hut(), hutBytes()
	for at := range b {
		for n := range 256 {
			try(strconv.Itoa(at)+" changed", r, with(b, at, n))
		}
		try(strconv.Itoa(at)+" left out", r, slices.Delete(slices.Clone(b), at, at+1))
		try(strconv.Itoa(at)+" twice", r, slices.Insert(slices.Clone(b), at, b[at]))
		try(strconv.Itoa(at)+" behind 0", r, slices.Insert(slices.Clone(b), at, 0))
	}
	r, b = town.Realm(), written(town.State()).b
	for at := range b {
		for _, n := range []int{0, 1, 2, 3, 127, 128, 255, int(b[at]) + 1, int(b[at]) - 1} {
			try("the town's "+strconv.Itoa(at), r, with(b, at, n))
		}
	}
	if read < 500 || tried < 100000 {
		t.Error("few are read", read, "of", tried)
	}
}

// Two states have the same bytes just where they are the same.
func TestOneWay(t *testing.T) {
	known := map[string]api.State{}
	for _, x := range samples() {
		if !reflect.DeepEqual(x.r, town.Realm()) {
			continue
		}
		b := string(Bytes(x.r, x.s))
		if s, twice := known[b]; twice && !state.Same(s, x.s) {
			t.Error(x.what, "has another one's bytes")
		}
		known[b] = x.s
	}
	if len(known) < 14 {
		t.Error("few", len(known))
	}
}

// P24.2, of all states that stand here

func TestWithinBound(t *testing.T) {
	for _, x := range samples() {
		if n := len(Bytes(x.r, x.s)); n == 0 || n > bound.Image(x.r) {
			t.Error(x.what, n, "is more than", bound.Image(x.r))
		}
	}
}

// The rules that hold everywhere

func TestAnyBytes(t *testing.T) {
	for _, r := range []api.Realm{hut(), town.Realm(), town.Least(), town.Full()} {
		for _, n := range []int{0, 1, 9, 122, 500, 1 << 14, 1 << 20} {
			for _, x := range []byte{0, 1, 2, 12, 40, 128, 255} {
				if s, e := Read(r, bytes.Repeat([]byte{x}, n)); e == api.OK || !reflect.DeepEqual(s, api.State{}) {
					t.Error(n, x, s, e)
				}
			}
		}
		for _, x := range samples() {
			if s, e := Read(r, Bytes(x.r, x.s)); e != api.OK && !reflect.DeepEqual(s, api.State{}) {
				t.Error(x.what, s, e)
			}
		}
	}
}

func TestBehindTheEnd(t *testing.T) {
	r, s := town.Realm(), town.State()
	s.Sessions = append(s.Sessions, 9)[:6]
	s.Shelves = append(s.Shelves, api.Shelf{Minted: [4]uint64{9}})[:6]
	s.Shelves[5].Items = append(s.Shelves[5].Items, api.Item{Name: "hidden"})[:12]
	s.Audit = append(s.Audit, api.Entry{Side: 9})[:3]
	b := Bytes(r, s)
	if !bytes.Equal(b, written(town.State()).b) {
		t.Error("what lies behind is put", b)
	}
	if s.Sessions[:7][6] != 9 || s.Shelves[:7][6].Minted[0] != 9 || s.Shelves[5].Items[:13][12].Name != "hidden" || s.Audit[:4][3].Side != 9 {
		t.Error("what lies behind is written")
	}
	long := append(slices.Clone(b), 7, 7)
	if got, e := Read(r, long[:len(b)]); e != api.OK || !state.Same(got, town.State()) {
		t.Error("what lies behind the bytes is read", got, e)
	}
	if long[len(b)] != 7 {
		t.Error("what lies behind the bytes is written")
	}
}

func TestApart(t *testing.T) {
	r, s := town.Realm(), town.State()
	b := Bytes(r, s)
	was := slices.Clone(b)
	one, e := Read(r, b)
	other, f := Read(r, b)
	if e != api.OK || f != api.OK {
		t.Fatal(e, f)
	}
	if !reflect.DeepEqual(r, town.Realm()) || !reflect.DeepEqual(s, town.State()) || !bytes.Equal(b, was) {
		t.Error("what is handed in is changed")
	}
	one.Shelves[0].Rooms[0].Name, one.Shelves[0].Purses[0][0], one.Sessions[0], one.Ranks[0][0], one.Orders[0].Seq, one.Audit[0].Slot = "x", 9, 9, 9, 9, 9
	clear(b)
	if !state.Same(other, town.State()) {
		t.Error("what is handed out is shared")
	}
	if again := Bytes(r, s); !bytes.Equal(again, was) {
		t.Error("the bytes are shared", again)
	}
}
