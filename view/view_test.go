package view

import (
	"math"
	"reflect"
	"slices"
	"strconv"
	"testing"

	"rialto/api"
	"rialto/state"
	"rialto/town"
)

// at is the label of a level and some compartments.
func at(level int, bits ...int) api.Label {
	a := api.Label{Level: level}
	for _, bit := range bits {
		a.Comps |= 1 << bit
	}
	return a
}

// greatest is the label that all others are at or below.
func greatest() api.Label { return api.Label{Level: 3, Comps: math.MaxUint64} }

// wrongLabels are labels that may not be.
func wrongLabels() []api.Label {
	var out []api.Label
	for _, level := range []int{math.MinInt, -4, -1, 4, 5, 256, math.MaxInt} {
		out = append(out, at(level), api.Label{Level: level, Comps: math.MaxUint64})
	}
	return out
}

// sight is what is seen in the town from a label: the places of labels, guilds and lines.
type sight struct {
	from                   api.Label
	shelves, guilds, lines []int
}

func sights() []sight {
	shelves, guilds, lines := []int{0, 1, 2, 3, 4, 5}, []int{0, 1}, []int{0, 1, 2, 3, 4, 5}
	return []sight{
		{at(0), []int{0}, nil, []int{0, 5}},
		{at(0, 2), []int{0, 1}, []int{0}, []int{0, 1, 5}},
		{at(0, 5), []int{0, 2}, []int{1}, []int{0, 3, 5}},
		{at(0, 2, 5), []int{0, 1, 2}, guilds, []int{0, 1, 3, 5}},
		{at(0, 1, 3, 63), []int{0}, nil, []int{0, 5}},
		{at(1), []int{0, 3}, nil, []int{0, 5}},
		{at(1, 2), []int{0, 1, 3, 4}, []int{0}, []int{0, 1, 4, 5}},
		{at(1, 5), []int{0, 2, 3}, []int{1}, []int{0, 3, 5}},
		{at(2), []int{0, 3}, nil, []int{0, 5}},
		{at(2, 2, 5), []int{0, 1, 2, 3, 4}, guilds, []int{0, 1, 3, 4, 5}},
		{at(3), []int{0, 3}, nil, []int{0, 5}},
		{at(3, 2), []int{0, 1, 3, 4}, []int{0}, []int{0, 1, 4, 5}},
		{at(3, 5, 7), []int{0, 2, 3}, []int{1}, []int{0, 3, 5}},
		{at(3, 2, 5), shelves, guilds, lines},
		{greatest(), shelves, guilds, lines},
	}
}

// fresh is the new state of a realm.
func fresh(t *testing.T, r api.Realm) api.State {
	t.Helper()
	s, e := state.New(r)
	if e != api.OK {
		t.Fatal("New", e)
	}
	return s
}

// odd is a state that fits the town, and may not be.
func odd() api.State {
	return api.State{
		Round:    math.MaxUint64,
		Shelves:  []api.Shelf{{}, {Rooms: make([]api.Room, 99)}, {Purses: make([][4]uint64, 1)}, {Burned: [4]uint64{9}}, {Places: []api.Ref{{Label: -1}}}, {Items: []api.Item{{Kind: 7}}}},
		Ranks:    [][]int{{7, -7}, nil},
		Orders:   []api.Order{{Seq: -1}},
		Audit:    make([]api.Entry, 99),
		Sessions: []int{-9, 99, 3, math.MinInt, math.MaxInt, -1},
	}
}

// states are some that fit the town.
func states(t *testing.T) []api.State {
	return []api.State{town.State(), fresh(t, town.Realm()), odd()}
}

// wanted works out anew what is seen of a state of the town.
func (x sight) wanted(t *testing.T, s api.State) api.State {
	out := fresh(t, town.Realm())
	out.Round, out.Orders, out.Audit = s.Round, s.Orders, s.Audit
	for _, place := range x.shelves {
		out.Shelves[place] = s.Shelves[place]
	}
	for _, guild := range x.guilds {
		out.Ranks[guild] = s.Ranks[guild]
	}
	for _, line := range x.lines {
		out.Sessions[line] = s.Sessions[line]
	}
	return out
}

// change is something done to a part of a state: a shelf, a row of ranks, a line's seat, or, with nothing told, what all see.
type change struct {
	what                 string
	shelf, guild, seatOf int
	do                   func(s *api.State)
}

// seen tells whether what is changed is seen.
func (c change) seen(x sight) bool {
	all := c.shelf < 0 && c.guild < 0 && c.seatOf < 0
	return all || slices.Contains(x.shelves, c.shelf) || slices.Contains(x.guilds, c.guild) || slices.Contains(x.lines, c.seatOf)
}

// onShelf are changes of a shelf, whatever there is on it.
func onShelf() []func(x *api.Shelf) {
	return []func(x *api.Shelf){
		func(x *api.Shelf) { x.Rooms = append(x.Rooms, api.Room{}) },
		func(x *api.Shelf) { x.Exits = append(x.Exits, api.Exit{}) },
		func(x *api.Shelf) { x.Items = append(x.Items, api.Item{Used: true, Name: "lamp", Kind: 1}) },
		func(x *api.Shelf) { x.Mails = append(x.Mails, api.Mail{Text: "come"}) },
		func(x *api.Shelf) { x.Trades = append(x.Trades, api.Trade{A: 1}) },
		func(x *api.Shelf) { x.Purses = append(x.Purses, [4]uint64{}) },
		func(x *api.Shelf) { x.Places = append(x.Places, api.Ref{}) },
		func(x *api.Shelf) { x.Minted[3]++ },
		func(x *api.Shelf) { x.Burned[0]++ },
	}
}

// changes are such of all parts of a state that fits the town.
func changes() []change {
	out := []change{
		{"Round", -1, -1, -1, func(s *api.State) { s.Round-- }},
		{"Orders", -1, -1, -1, func(s *api.State) { s.Orders = append(s.Orders, api.Order{}) }},
		{"Audit", -1, -1, -1, func(s *api.State) { s.Audit = append(s.Audit, api.Entry{}) }},
	}
	for place := range 6 {
		for i, do := range onShelf() {
			out = append(out, change{"shelf " + strconv.Itoa(place) + " by " + strconv.Itoa(i), place, -1, -1, func(s *api.State) { do(&s.Shelves[place]) }})
		}
		out = append(out, change{"seat " + strconv.Itoa(place), -1, -1, place, func(s *api.State) { s.Sessions[place] += 2 }})
	}
	for guild := range 2 {
		out = append(out, change{"ranks " + strconv.Itoa(guild), -1, guild, -1, func(s *api.State) { s.Ranks[guild] = append(s.Ranks[guild], 1) }})
	}
	return out
}

// unfit are states that do not fit the town.
func unfit() []api.State {
	out := []api.State{{}}
	for _, do := range []func(s *api.State){
		func(s *api.State) { s.Shelves = s.Shelves[:5] },
		func(s *api.State) { s.Shelves = append(s.Shelves, api.Shelf{}) },
		func(s *api.State) { s.Shelves = nil },
		func(s *api.State) { s.Ranks = s.Ranks[1:] },
		func(s *api.State) { s.Ranks = append(s.Ranks, nil) },
		func(s *api.State) { s.Ranks = nil },
		func(s *api.State) { s.Sessions = s.Sessions[:5] },
		func(s *api.State) { s.Sessions = append(s.Sessions, -1) },
		func(s *api.State) { s.Sessions = nil },
		func(s *api.State) {
			s.Shelves, s.Ranks, s.Sessions = make([]api.Shelf, 1<<16), make([][]int, 1<<16), make([]int, 1<<16)
		},
	} {
		s := town.State()
		do(&s)
		out = append(out, s)
	}
	return out
}

// P22.1

func TestFrom(t *testing.T) {
	for _, s := range states(t) {
		was := state.Clone(s)
		for _, x := range sights() {
			got, e := From(town.Realm(), s, x.from)
			if want := x.wanted(t, was); e != api.OK || !state.Same(got, want) {
				t.Error(x.from, "is", got, e, "and not", want)
			}
			if !state.Same(s, was) {
				t.Fatal("changed", x.from)
			}
		}
	}
}

func TestExample(t *testing.T) {
	s, e := From(town.Realm(), town.State(), at(0))
	was, none := town.State(), fresh(t, town.Realm())
	if e != api.OK || s.Round != 9 || !reflect.DeepEqual(s.Shelves[0], was.Shelves[0]) || !slices.Equal(s.Orders, was.Orders) || !slices.Equal(s.Audit, was.Audit) {
		t.Error("what is seen", s, e)
	}
	if !reflect.DeepEqual(s.Shelves[1:], none.Shelves[1:]) || !reflect.DeepEqual(s.Ranks, [][]int{{0, 2, 0}, {2, 0, 0}}) || !slices.Equal(s.Sessions, []int{1, -1, -1, -1, -1, 0}) {
		t.Error("what is not seen", s)
	}
}

func TestFromInOtherRealms(t *testing.T) {
	r := town.Least()
	s := fresh(t, r)
	s.Round, s.Sessions[0] = 5, 0
	for _, a := range []api.Label{at(0), at(0, 63), at(2, 5), greatest()} {
		if got, e := From(r, s, a); e != api.OK || !state.Same(got, s) {
			t.Error("the least one", a, got, e)
		}
	}
	r = town.Full()
	s = fresh(t, r)
	for i := range s.Shelves {
		s.Shelves[i].Purses[i][i%4], s.Sessions[i] = 7, i
	}
	for i := range s.Ranks {
		s.Ranks[i] = []int{2, 2, 2, 2, 2, 2, 2, 2}
	}
	for i, a := range r.Labels {
		got, e := From(r, s, a)
		for j := range s.Shelves {
			sees := j == 0 || j == i
			if e != api.OK || (got.Shelves[j].Purses[j][j%4] == 7) != sees || (got.Sessions[j] == j) != sees || j > 0 && (got.Ranks[j-1][7] == 2) != sees {
				t.Error("the full one", i, j, got, e)
			}
		}
	}
}

func TestWrongFrom(t *testing.T) {
	refused := func(what any, r api.Realm, s api.State, a api.Label) {
		t.Helper()
		if got, e := From(r, s, a); e != api.ErrArg || !reflect.DeepEqual(got, api.State{}) {
			t.Error(what, got, e)
		}
		if Same(r, s, s, a) {
			t.Error(what, "is seen alike")
		}
	}
	for i, r := range town.Wrong() {
		refused(i, r, town.State(), at(0))
		refused(i, r, api.State{}, at(0))
	}
	for _, a := range wrongLabels() {
		refused(a, town.Realm(), town.State(), a)
	}
	for i, s := range unfit() {
		for _, a := range []api.Label{at(0), at(3, 2, 5)} {
			refused(i, town.Realm(), s, a)
			if Same(town.Realm(), s, town.State(), a) || Same(town.Realm(), town.State(), s, a) {
				t.Error("one that does not fit is seen alike", i)
			}
		}
	}
	refused("another realm's", town.Realm(), fresh(t, town.Full()), greatest())
}

func TestSame(t *testing.T) {
	all := states(t)
	for i, s := range all {
		for j, other := range all {
			for _, x := range sights() {
				want := state.Same(x.wanted(t, s), x.wanted(t, other))
				if got := Same(town.Realm(), s, other, x.from); got != want || i == j && !got {
					t.Error(i, j, x.from, "is", got)
				}
			}
		}
	}
}

// P22.2

func TestLinesAndSees(t *testing.T) {
	for _, x := range sights() {
		if got := Lines(town.Realm(), x.from); !slices.Equal(got, x.lines) {
			t.Error(x.from, got)
		}
		for _, line := range []int{math.MinInt, -128, -2, -1, 0, 1, 2, 3, 4, 5, 6, 7, 127, math.MaxInt} {
			if Sees(town.Realm(), line, x.from) != slices.Contains(x.lines, line) {
				t.Error(x.from, line, "is not", slices.Contains(x.lines, line))
			}
		}
	}
	if got := Lines(town.Full(), greatest()); !slices.Equal(got, []int{0, 1, 2, 3, 4, 5, 6, 7}) {
		t.Error("the full one", got)
	}
	if got := Lines(town.Full(), at(0, 27)); !slices.Equal(got, []int{0, 3}) {
		t.Error("one hall", got)
	}
	if got := Lines(town.Least(), at(0)); !slices.Equal(got, []int{0}) {
		t.Error("the least one", got)
	}
	r := town.Realm()
	r.Lines = []int{5}
	if Lines(r, at(3, 2)) != nil || Sees(r, 0, at(3, 2)) || !Sees(r, 0, at(3, 2, 5)) {
		t.Error("no line at or below")
	}
}

func TestWrongLines(t *testing.T) {
	for i, r := range town.Wrong() {
		if l := Lines(r, greatest()); len(l) != 0 || Sees(r, 0, greatest()) {
			t.Error("a realm that may not be", i, l)
		}
	}
	for _, a := range wrongLabels() {
		if l := Lines(town.Realm(), a); len(l) != 0 || Sees(town.Realm(), 0, a) {
			t.Error("a label that may not be", a, l)
		}
	}
}

// P22.3

func TestSeenOfWhatIsSeen(t *testing.T) {
	r, below := town.Realm(), 0
	for _, s := range states(t) {
		for _, x := range sights() {
			for _, y := range sights() {
				if x.from.Level > y.from.Level || x.from.Comps&^y.from.Comps != 0 {
					continue
				}
				more, e := From(r, s, y.from)
				if e != api.OK {
					t.Fatal(y.from, e)
				}
				less, e := From(r, more, x.from)
				once, f := From(r, s, x.from)
				if e != api.OK || f != api.OK || !state.Same(less, once) || !Same(r, more, s, x.from) {
					t.Error(x.from, "of", y.from, less, e, once, f)
				}
				below++
			}
		}
	}
	if below < 100 {
		t.Error("few labels at or below others", below)
	}
}

// What can be seen from a label can be seen from each one that it is at or below.
func TestSeenAlikeFromAbove(t *testing.T) {
	r := town.Realm()
	for _, c := range changes() {
		s := town.State()
		c.do(&s)
		for _, x := range sights() {
			for _, a := range r.Labels {
				above := a.Level >= x.from.Level && x.from.Comps&^a.Comps == 0
				if above && Same(r, s, town.State(), a) && !Same(r, s, town.State(), x.from) {
					t.Error(c.what, a, x.from)
				}
			}
		}
	}
}

// P22.4

func TestAllIsSeenFromTheGreatest(t *testing.T) {
	for _, s := range states(t) {
		if got, e := From(town.Realm(), s, greatest()); e != api.OK || !state.Same(got, s) {
			t.Error(got, e)
		}
		for _, c := range changes() {
			now := state.Clone(s)
			c.do(&now)
			if Same(town.Realm(), s, now, greatest()) {
				t.Error(c.what, "is not seen")
			}
		}
	}
}

func TestWhatIsNotSeen(t *testing.T) {
	hidden := 0
	for _, s := range states(t) {
		for _, x := range sights() {
			all := state.Clone(s)
			for _, c := range changes() {
				now := state.Clone(s)
				c.do(&now)
				if Same(town.Realm(), s, now, x.from) == c.seen(x) {
					t.Error(x.from, c.what, "seen is not", c.seen(x))
				}
				if !c.seen(x) {
					c.do(&all)
					hidden++
				}
			}
			got, e := From(town.Realm(), all, x.from)
			if want := x.wanted(t, s); e != api.OK || !state.Same(got, want) {
				t.Error(x.from, "all that is not seen", got, e)
			}
		}
	}
	if hidden < 500 {
		t.Error("few changes are hidden", hidden)
	}
}

// Whatever a state has that may not be: what is not seen of it is as in the new state.
func TestHiddenIsNew(t *testing.T) {
	none := fresh(t, town.Realm())
	for _, x := range sights() {
		got, e := From(town.Realm(), odd(), x.from)
		if e != api.OK {
			t.Fatal(x.from, e)
		}
		for place := range got.Shelves {
			if !slices.Contains(x.shelves, place) && !reflect.DeepEqual(got.Shelves[place], none.Shelves[place]) {
				t.Error(x.from, "shelf", place, got.Shelves[place])
			}
		}
		for guild := range got.Ranks {
			if !slices.Contains(x.guilds, guild) && !slices.Equal(got.Ranks[guild], none.Ranks[guild]) {
				t.Error(x.from, "ranks", guild, got.Ranks[guild])
			}
		}
		for line, who := range got.Sessions {
			if !slices.Contains(x.lines, line) && who != -1 {
				t.Error(x.from, "line", line, who)
			}
		}
	}
}

// The rules that hold everywhere

func TestBehindTheEnd(t *testing.T) {
	r, s := town.Realm(), town.State()
	s.Sessions = append(s.Sessions, 9)[:6]
	s.Ranks = append(s.Ranks, []int{9})[:2]
	s.Shelves = append(s.Shelves, api.Shelf{Minted: [4]uint64{9}})[:6]
	s.Audit = append(s.Audit, api.Entry{Side: 9})[:3]
	for _, x := range sights() {
		got, e := From(r, s, x.from)
		if e != api.OK || !state.Same(got, x.wanted(t, town.State())) {
			t.Error(x.from, got, e)
		}
		_, _ = append(got.Sessions, 8), append(got.Audit, api.Entry{Side: 8})
		if slices.Contains(got.Sessions[:cap(got.Sessions)], 9) || slices.Contains(got.Audit[:cap(got.Audit)], api.Entry{Side: 9}) {
			t.Error("what lies behind is handed out", x.from)
		}
	}
	if s.Sessions[:7][6] != 9 || s.Ranks[:3][2][0] != 9 || s.Shelves[:7][6].Minted[0] != 9 || s.Audit[:4][3].Side != 9 {
		t.Error("what lies behind is written")
	}
}

func TestNotChanged(t *testing.T) {
	r, s := town.Realm(), town.State()
	for _, x := range sights() {
		_, _ = From(r, s, x.from)
		_ = Same(r, s, s, x.from)
		_ = Lines(r, x.from)
		_ = Sees(r, 0, x.from)
	}
	if !reflect.DeepEqual(r, town.Realm()) || !reflect.DeepEqual(s, town.State()) {
		t.Error("changed")
	}
}
