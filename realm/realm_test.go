package realm

import (
	"bytes"
	"math"
	"reflect"
	"slices"
	"strings"
	"testing"

	"rialto/api"
	"rialto/label"
	"rialto/wire"
)

// at is the label of a level and some compartments.
func at(level int, bits ...int) api.Label {
	a := api.Label{Level: level}
	for _, bit := range bits {
		a.Comps |= 1 << bit
	}
	return a
}

// least is the smallest realm: one label, one line, one account.
func least() api.Realm {
	return api.Realm{
		Labels:   []api.Label{{}},
		Lines:    []int{0},
		Accounts: []api.Account{{Name: "a", Secret: "s"}},
		Quotas:   []api.Quota{{Rooms: 1}},
		Rate:     1,
		Rounds:   1,
	}
}

// town is a realm of two guilds and six labels.
func town() api.Realm {
	return api.Realm{
		Labels: []api.Label{at(0), at(0, 2), at(0, 5), at(1, 2), at(2), at(3, 2, 5)},
		Lines:  []int{0, 5, 3, 0},
		Accounts: []api.Account{
			{Name: "alice", Secret: "rose", Level: 3, Mints: true},
			{Name: "bob", Secret: "rose", Level: 0},
			{Name: "carol2", Secret: "lily9", Level: 1, Mints: true},
		},
		Guilds: []api.Guild{{Bit: 2, Founder: 1}, {Bit: 5, Founder: 0}},
		Quotas: []api.Quota{
			{Rooms: 1, Exits: 2, Items: 3, Mails: 4, Trades: 5, Cap: 0x0102030405060708},
			{}, {Rooms: 12}, {Cap: 9}, {Trades: 7}, {Mails: 1},
		},
		Orders: 10, Audits: 20, Rate: 3, Rounds: 4,
	}
}

// full is a realm that is at every limit.
func full() api.Realm {
	r := api.Realm{
		Labels: []api.Label{at(0), at(0, 0), at(0, 1), at(0, 30), at(0, 31), at(0, 32), at(0, 62), at(0, 63)},
		Orders: api.MaxOrders, Audits: api.MaxAudits, Rate: api.MaxRate, Rounds: api.MaxRounds,
	}
	for i := range 8 {
		r.Lines = append(r.Lines, 7-i)
		r.Accounts = append(r.Accounts, api.Account{Name: strings.Repeat(string(rune('a'+i)), 12), Secret: strings.Repeat("z", 12), Level: i % 4, Mints: i%2 == 1})
		r.Quotas = append(r.Quotas, api.Quota{Rooms: 12, Exits: 12, Items: 12, Mails: 12, Trades: 12, Cap: api.MaxTotal / 8})
	}
	for i, bit := range []int{0, 1, 30, 31, 32, 62, 63} {
		r.Guilds = append(r.Guilds, api.Guild{Bit: bit, Founder: 7 - i})
	}
	return r
}

// change is a realm, and what is changed of it.
type change struct {
	what string
	do   func(r *api.Realm)
}

// after is the town behind a change.
func (x change) after() api.Realm {
	r := town()
	x.do(&r)
	return r
}

// fine are changes behind which the town may be.
func fine() []change {
	out := []change{
		{"nothing", func(r *api.Realm) {}},
		{"no caps", func(r *api.Realm) { caps(r, 0, 0, 0, 0, 0, 0) }},
		{"one cap has all", func(r *api.Realm) { caps(r, 0, api.MaxTotal, 0, 0, 0, 0) }},
		{"caps have all", func(r *api.Realm) { caps(r, 1, api.MaxTotal-7, 1, 2, 3, 0) }},
		{"one account", func(r *api.Realm) {
			r.Accounts = r.Accounts[:1]
			r.Guilds[0].Founder = 0
		}},
		{"one line", func(r *api.Realm) { r.Lines = []int{5} }},
		{"eight lines", func(r *api.Realm) { r.Lines = []int{5, 4, 3, 2, 1, 0, 5, 5} }},
		{"one secret", func(r *api.Realm) { r.Accounts[1].Secret = "bob" }},
		{"one founder", func(r *api.Realm) { r.Guilds[1].Founder = 1 }},
	}
	for _, n := range []int{0, 1, 11, 12} {
		for i := range 5 {
			out = append(out, change{"a quota", func(r *api.Realm) {
				*number(&r.Quotas[1], i) = n
				if n > 0 {
					*number(&r.Quotas[0], i) = n
				}
			}})
		}
	}
	for _, level := range []int{0, 1, 2, 3} {
		out = append(out, change{"a level", func(r *api.Realm) { r.Accounts[1].Level = level }})
	}
	for _, n := range []int{0, 24} {
		out = append(out, change{"orders", func(r *api.Realm) { r.Orders = n }}, change{"audits", func(r *api.Realm) { r.Audits = 2 * n }})
	}
	for _, n := range []int{1, 4} {
		out = append(out, change{"rate", func(r *api.Realm) { r.Rate = n }}, change{"rounds", func(r *api.Realm) { r.Rounds = n * n }})
	}
	return out
}

// number is one of a quota's numbers of slots.
func number(q *api.Quota, i int) *int {
	return []*int{&q.Rooms, &q.Exits, &q.Items, &q.Mails, &q.Trades}[i]
}

func caps(r *api.Realm, l ...uint64) {
	for i, n := range l {
		r.Quotas[i].Cap = n
	}
}

// wrong are changes behind which the town may not be.
func wrong() []change {
	return slices.Concat(wrongLabels(), wrongPeople(), wrongGuilds(), wrongNumbers(), []change{{"nothing at all", func(r *api.Realm) { *r = api.Realm{} }}})
}

func wrongLabels() []change {
	return []change{
		{"no labels", func(r *api.Realm) { r.Labels, r.Quotas = nil, nil }},
		{"no bottom", func(r *api.Realm) { r.Labels[0] = at(0, 2); r.Labels[1] = at(0, 2, 5); r.Labels[2] = at(0, 5, 2) }},
		{"a bottom with a level", func(r *api.Realm) { r.Labels[0] = at(-1) }},
		{"not rising", func(r *api.Realm) { r.Labels[4], r.Labels[3] = r.Labels[3], r.Labels[4] }},
		{"one twice", func(r *api.Realm) { r.Labels[4] = r.Labels[3] }},
		{"the bottom twice", func(r *api.Realm) {
			*r = least()
			r.Labels = append(r.Labels, at(0))
			r.Quotas = append(r.Quotas, api.Quota{})
		}},
		{"the last one falls", func(r *api.Realm) { r.Labels[5] = at(1, 5) }},
		{"a level 4", func(r *api.Realm) { r.Labels[5].Level = 4 }},
		{"a level far off", func(r *api.Realm) { r.Labels[5].Level = math.MaxInt }},
		{"a label too few", func(r *api.Realm) { r.Labels = r.Labels[:5]; r.Lines = []int{0} }},
		{"a label too many", func(r *api.Realm) { r.Labels = append(r.Labels, at(3, 2, 5, 2)); r.Labels[5] = at(3, 2) }},
		{"nine labels", func(r *api.Realm) {
			*r = full()
			r.Labels = append(r.Labels, at(1))
			r.Quotas = append(r.Quotas, api.Quota{})
		}},
		{"a line too low", func(r *api.Realm) { r.Lines[1] = -1 }},
		{"a line too high", func(r *api.Realm) { r.Lines[3] = 6 }},
		{"a line far below", func(r *api.Realm) { r.Lines[0] = math.MinInt }},
		{"a line far above", func(r *api.Realm) { r.Lines[0] = math.MaxInt }},
		{"no lines", func(r *api.Realm) { r.Lines = nil }},
		{"nine lines", func(r *api.Realm) { r.Lines = make([]int, 9) }},
	}
}

func wrongPeople() []change {
	out := []change{
		{"no accounts", func(r *api.Realm) { *r = least(); r.Accounts = nil }},
		{"nine accounts", func(r *api.Realm) {
			*r = full()
			r.Accounts = append(r.Accounts, api.Account{Name: "i", Secret: "s"})
		}},
		{"a name twice", func(r *api.Realm) { r.Accounts[2].Name = "alice" }},
		{"a name side by side", func(r *api.Realm) { r.Accounts[2].Name = "bob" }},
	}
	for _, s := range []string{"", "Bob", "2bob", "bo b", "bob ", "bob\n", "böb", "abcdefghijklm", strings.Repeat("x", 300)} {
		out = append(out,
			change{"the name " + s, func(r *api.Realm) { r.Accounts[1].Name = s }},
			change{"the secret " + s, func(r *api.Realm) { r.Accounts[2].Secret = s }})
	}
	for _, n := range []int{math.MinInt, -1, 4, 256, math.MaxInt} {
		out = append(out, change{"an account's level", func(r *api.Realm) { r.Accounts[0].Level = n }})
	}
	return out
}

func wrongGuilds() []change {
	out := []change{
		{"no guilds", func(r *api.Realm) { r.Guilds = nil }},
		{"a guild too few", func(r *api.Realm) { r.Guilds = r.Guilds[:1] }},
		{"the first one left out", func(r *api.Realm) { r.Guilds = r.Guilds[1:] }},
		{"a compartment of none", func(r *api.Realm) { r.Labels[5] = at(3, 2, 5, 6) }},
		{"the last compartment of none", func(r *api.Realm) { r.Labels[5] = at(3, 63) }},
		{"bits that fall", func(r *api.Realm) { slices.Reverse(r.Guilds) }},
		{"a bit twice", func(r *api.Realm) { r.Guilds = append(r.Guilds, api.Guild{Bit: 5}) }},
		{"no hall", func(r *api.Realm) { r.Guilds = append(r.Guilds, api.Guild{Bit: 6}) }},
		{"a hall with a level", func(r *api.Realm) { r.Labels[2] = at(0, 2, 5) }},
		{"a hall of all bits", func(r *api.Realm) { r.Guilds[0].Bit = 1; r.Labels[1] = at(0) }},
		{"nine guilds", func(r *api.Realm) {
			*r = full()
			r.Guilds = nil
			r.Labels = []api.Label{at(0)}
			for bit := range 9 {
				r.Guilds = append(r.Guilds, api.Guild{Bit: bit})
				r.Labels = append(r.Labels, at(0, bit))
			}
			r.Quotas = make([]api.Quota, 10)
			r.Quotas[0].Rooms = 1
		}},
	}
	for _, n := range []int{math.MinInt, -64, -1, 64, 66, 130, 258, math.MaxInt} {
		out = append(out, change{"a bit that is none", func(r *api.Realm) { r.Guilds[1].Bit = n }}, change{"a first bit that is none", func(r *api.Realm) { r.Guilds[0].Bit = n }})
	}
	for _, n := range []int{math.MinInt, -1, 3, 256, math.MaxInt} {
		out = append(out, change{"a founder that is none", func(r *api.Realm) { r.Guilds[1].Founder = n }})
	}
	return out
}

func wrongNumbers() []change {
	out := []change{
		{"no quotas", func(r *api.Realm) { r.Quotas = nil }},
		{"a quota too few", func(r *api.Realm) { r.Quotas = r.Quotas[:5] }},
		{"a quota too many", func(r *api.Realm) { r.Quotas = append(r.Quotas, api.Quota{}) }},
		{"no plaza", func(r *api.Realm) { r.Quotas[0].Rooms = 0 }},
		{"a cap too large", func(r *api.Realm) { caps(r, 0, 0, 0, 0, 0, api.MaxTotal+1) }},
		{"a first cap too large", func(r *api.Realm) { caps(r, api.MaxTotal+1, 0, 0, 0, 0, 0) }},
		{"caps too large by one", func(r *api.Realm) { caps(r, 1, api.MaxTotal-7, 1, 2, 3, 1) }},
		{"caps whose sum leaves its type", func(r *api.Realm) { caps(r, 1<<63, 1<<63, 0, 0, 0, 0) }},
		{"caps whose sum is one again", func(r *api.Realm) { caps(r, 2, math.MaxUint64, 0, 0, 0, 0) }},
		{"caps of a fourth each", func(r *api.Realm) { caps(r, 1<<62, 1<<62, 1<<62, 1<<62, 0, 0) }},
	}
	for _, n := range []int{math.MinInt, -1, 13, 256, math.MaxInt} {
		for i := range 5 {
			out = append(out, change{"a quota", func(r *api.Realm) { *number(&r.Quotas[0], i) = n }}, change{"a last quota", func(r *api.Realm) { *number(&r.Quotas[5], i) = n }})
		}
	}
	for _, n := range []int{math.MinInt, -1, 25, 256, math.MaxInt} {
		out = append(out, change{"orders", func(r *api.Realm) { r.Orders = n }})
	}
	for _, n := range []int{math.MinInt, -1, 49, 256, math.MaxInt} {
		out = append(out, change{"audits", func(r *api.Realm) { r.Audits = n }})
	}
	for _, n := range []int{math.MinInt, -1, 0, 5, 257, math.MaxInt} {
		out = append(out, change{"rate", func(r *api.Realm) { r.Rate = n }})
	}
	for _, n := range []int{math.MinInt, -1, 0, 17, 257, math.MaxInt} {
		out = append(out, change{"rounds", func(r *api.Realm) { r.Rounds = n }})
	}
	return out
}

// sample has realms that may be.
func sample() []api.Realm {
	out := []api.Realm{least(), full()}
	for _, x := range fine() {
		out = append(out, x.after())
	}
	return out
}

// same tells whether two realms are; a list that is nil and one without elements are.
func same(a, b api.Realm) bool {
	if len(a.Guilds) == 0 && len(b.Guilds) == 0 {
		a.Guilds, b.Guilds = nil, nil
	}
	return reflect.DeepEqual(a, b)
}

// P5.1

func TestRight(t *testing.T) {
	if !Right(least()) || !Right(full()) {
		t.Error("the least one, or the full one")
	}
	for _, x := range fine() {
		if !Right(x.after()) {
			t.Error("may be:", x.what)
		}
	}
	for _, x := range wrong() {
		if Right(x.after()) {
			t.Error("may not be:", x.what, x.after())
		}
	}
}

func TestRightOfMany(t *testing.T) {
	const many = 1 << 20
	r := api.Realm{Labels: make([]api.Label, many), Lines: make([]int, many), Accounts: make([]api.Account, many), Guilds: make([]api.Guild, many), Quotas: make([]api.Quota, many)}
	if Right(r) {
		t.Error("far too many")
	}
}

func TestBehindTheEnd(t *testing.T) {
	r := town()
	r.Labels = append(r.Labels, at(-1))[:6]
	r.Lines = append(r.Lines, -1)[:4]
	r.Accounts = append(r.Accounts, api.Account{})[:3]
	r.Guilds = append(r.Guilds, api.Guild{Bit: -1})[:2]
	r.Quotas = append(r.Quotas, api.Quota{Rooms: -1})[:6]
	if !Right(r) || !bytes.Equal(Bytes(r), Bytes(town())) {
		t.Error("what lies behind the end is looked at")
	}
}

func TestLeq(t *testing.T) {
	for _, r := range sample() {
		for i := -2; i < len(r.Labels)+2; i++ {
			for j := -2; j < len(r.Labels)+2; j++ {
				want := i >= 0 && j >= 0 && i < len(r.Labels) && j < len(r.Labels) && label.Leq(r.Labels[i], r.Labels[j])
				if Leq(r, i, j) != want {
					t.Error(r, i, j)
				}
			}
		}
	}
	r := town()
	for _, x := range []struct {
		i, j int
		want bool
	}{{0, 0, true}, {0, 4, true}, {1, 3, true}, {3, 1, false}, {2, 3, false}, {3, 4, false}, {1, 5, true}, {4, 5, true}, {5, 4, false}, {math.MinInt, 0, false}, {0, math.MaxInt, false}} {
		if Leq(r, x.i, x.j) != x.want {
			t.Error(x)
		}
	}
}

func TestPlace(t *testing.T) {
	r := town()
	for i, a := range r.Labels {
		if Place(r, a) != i {
			t.Error(a)
		}
	}
	for _, a := range []api.Label{at(1), at(0, 2, 5), at(3), at(3, 2), at(2, 2), at(-1), at(4, 2, 5), {Comps: math.MaxUint64}, {Level: math.MaxInt}} {
		if n := Place(r, a); n != -1 {
			t.Error(a, n)
		}
	}
}

func TestHallOf(t *testing.T) {
	r := town()
	for guild, want := range map[int]int{0: 1, 1: 2, 2: -1, 3: -1, -1: -1, math.MinInt: -1, math.MaxInt: -1} {
		if n := HallOf(r, guild); n != want {
			t.Error(guild, n)
		}
	}
	if n := HallOf(least(), 0); n != -1 {
		t.Error("no guilds", n)
	}
}

func TestGuildOf(t *testing.T) {
	r := town()
	for place, want := range map[int]int{0: -1, 1: 0, 2: 1, 3: -1, 4: -1, 5: -1, 6: -1, -1: -1, math.MinInt: -1, math.MaxInt: -1} {
		if n := GuildOf(r, place); n != want {
			t.Error(place, n)
		}
	}
	if n := GuildOf(least(), 0); n != -1 {
		t.Error("no guilds", n)
	}
}

func TestGuilds(t *testing.T) {
	r := town()
	for place, want := range map[int][]int{0: nil, 1: {0}, 2: {1}, 3: {0}, 4: nil, 5: {0, 1}, 6: nil, -1: nil, math.MinInt: nil, math.MaxInt: nil} {
		if l := Guilds(r, place); !slices.Equal(l, want) {
			t.Error(place, l)
		}
	}
	Guilds(r, 5)[0] = 9
	if l := Guilds(r, 5); !slices.Equal(l, []int{0, 1}) {
		t.Error("not new memory", l)
	}
}

func TestAccount(t *testing.T) {
	r := town()
	for s, want := range map[string]int{"alice": 0, "bob": 1, "carol2": 2, "": -1, "carol": -1, "Bob": -1, "bob ": -1, "rose": -1, "lily9": -1} {
		if n := Account(r, s); n != want {
			t.Error(s, n)
		}
	}
}

// What is told of a realm that may not be.
func TestWrongTellsNothing(t *testing.T) {
	for _, x := range wrong() {
		r := x.after()
		if b := Bytes(r); len(b) != 0 {
			t.Error(x.what, b)
		}
		if Account(r, "alice") != -1 || Place(r, api.Label{}) != -1 {
			t.Error(x.what, "tells an account, or a label")
		}
		for _, i := range []int{math.MinInt, -1, 0, 1, 2, 5, 6, math.MaxInt} {
			if HallOf(r, i) != -1 || GuildOf(r, i) != -1 || len(Guilds(r, i)) != 0 || Leq(r, i, i) || Leq(r, 0, i) {
				t.Error(x.what, i)
			}
		}
	}
}

// P5.2

func TestBytes(t *testing.T) {
	want := []byte{
		1, 0, 0, 0, 0, 0, 0, 0, 0, 0,
		1, 0,
		1, 1, 'a', 1, 's', 0, 0,
		0,
		1, 0, 0, 0, 0, 0, 0, 0, 0, 0, 0, 0, 0,
		0, 0, 1, 1,
	}
	if b := Bytes(least()); !bytes.Equal(b, want) {
		t.Error("the least one", b)
	}
	want = []byte{
		6,
		0, 0, 0, 0, 0, 0, 0, 0, 0,
		0, 0, 0, 0, 0, 0, 0, 0, 4,
		0, 0, 0, 0, 0, 0, 0, 0, 32,
		1, 0, 0, 0, 0, 0, 0, 0, 4,
		2, 0, 0, 0, 0, 0, 0, 0, 0,
		3, 0, 0, 0, 0, 0, 0, 0, 36,
		4, 0, 5, 3, 0,
		3,
		5, 'a', 'l', 'i', 'c', 'e', 4, 'r', 'o', 's', 'e', 3, 1,
		3, 'b', 'o', 'b', 4, 'r', 'o', 's', 'e', 0, 0,
		6, 'c', 'a', 'r', 'o', 'l', '2', 5, 'l', 'i', 'l', 'y', '9', 1, 1,
		2, 2, 1, 5, 0,
		1, 2, 3, 4, 5, 1, 2, 3, 4, 5, 6, 7, 8,
		0, 0, 0, 0, 0, 0, 0, 0, 0, 0, 0, 0, 0,
		12, 0, 0, 0, 0, 0, 0, 0, 0, 0, 0, 0, 0,
		0, 0, 0, 0, 0, 0, 0, 0, 0, 0, 0, 0, 9,
		0, 0, 0, 0, 7, 0, 0, 0, 0, 0, 0, 0, 0,
		0, 0, 0, 1, 0, 0, 0, 0, 0, 0, 0, 0, 0,
		10, 20, 3, 4,
	}
	if b := Bytes(town()); !bytes.Equal(b, want) {
		t.Error("the town", b)
	}
	if r, e := Read(want); !same(r, town()) || e != api.OK {
		t.Error("the town, read", r, e)
	}
}

// fault holds what Read answers against what it should, and that nothing comes beside it.
func fault(t *testing.T, what string, b []byte, want api.Errno) {
	t.Helper()
	if r, e := Read(b); e != want || !reflect.DeepEqual(r, api.Realm{}) {
		t.Error(what, e, "for", want)
	}
}

func TestReadCut(t *testing.T) {
	for _, r := range []api.Realm{least(), town(), full()} {
		b := Bytes(r)
		for n := range b {
			fault(t, "cut", b[:n], api.ErrShort)
		}
		fault(t, "one more", append(slices.Clone(b), 0), api.ErrLong)
		fault(t, "twice", slices.Concat(b, b), api.ErrLong)
	}
	fault(t, "nothing", nil, api.ErrShort)
}

// head is the bytes of the town up to its lines, its accounts, its guilds.
func head(lists int) []byte {
	n := 1 + 6*9
	for _, size := range []int{1 + 4, 1 + 13 + 11 + 15}[:lists] {
		n += size
	}
	return Bytes(town())[:n]
}

func TestReadCounts(t *testing.T) {
	for n := 9; n < 256; n++ {
		fault(t, "labels", []byte{byte(n)}, api.ErrForm)
		for lists := range 3 {
			fault(t, "a list", append(slices.Clone(head(lists)), byte(n)), api.ErrForm)
		}
	}
	// Eight are not too many: what is missing is told.
	fault(t, "labels", []byte{8}, api.ErrShort)
	for lists := range 3 {
		fault(t, "a list", append(slices.Clone(head(lists)), 8), api.ErrShort)
	}
	// What stands ahead is told first.
	fault(t, "labels cut, and behind them too many", append([]byte{8}, bytes.Repeat([]byte{9}, 71)...), api.ErrShort)
	fault(t, "none", make([]byte, 4+4), api.ErrForm)
	fault(t, "none, and one left", make([]byte, 4+4+1), api.ErrLong)
}

func TestReadAccounts(t *testing.T) {
	ahead := append(slices.Clone(head(1)), 2)
	for _, x := range []struct {
		what string
		b    []byte
		want api.Errno
	}{
		{"a name too long, with all else missing", []byte{13}, api.ErrForm},
		{"a name far too long", []byte{255}, api.ErrForm},
		{"a name that is cut", []byte{12, 'a'}, api.ErrShort},
		{"no secret", []byte{1, 'a'}, api.ErrShort},
		{"a secret too long", []byte{1, 'a', 13}, api.ErrForm},
		{"no level", []byte{1, 'a', 1, 'b'}, api.ErrShort},
		{"nothing of minting", []byte{1, 'a', 1, 'b', 3}, api.ErrShort},
		{"minting 1", []byte{1, 'a', 1, 'b', 3, 1}, api.ErrShort},
		{"minting 2", []byte{1, 'a', 1, 'b', 3, 2}, api.ErrForm},
		{"minting 255", []byte{1, 'a', 1, 'b', 3, 255}, api.ErrForm},
		{"minting 2, and a name that may not be", []byte{1, 'A', 0, 9, 2}, api.ErrForm},
		{"a name that may not be, with bytes missing", []byte{1, 'A', 0, 9, 0}, api.ErrShort},
	} {
		fault(t, x.what, append(slices.Clone(ahead), x.b...), x.want)
	}
}

// unchecked is the bytes of a realm that may not be, put by hand.
func unchecked(r api.Realm) []byte {
	one := func(b []byte, n int) []byte { return wire.Num(b, uint64(n), 1) }
	b := one(nil, len(r.Labels))
	for _, a := range r.Labels {
		b = wire.Num(one(b, a.Level), a.Comps, 8)
	}
	b = one(b, len(r.Lines))
	for _, n := range r.Lines {
		b = one(b, n)
	}
	b = one(b, len(r.Accounts))
	for _, a := range r.Accounts {
		mints := 0
		if a.Mints {
			mints = 1
		}
		b = one(one(wire.Text(wire.Text(b, a.Name), a.Secret), a.Level), mints)
	}
	b = one(b, len(r.Guilds))
	for _, g := range r.Guilds {
		b = one(one(b, g.Bit), g.Founder)
	}
	for _, q := range r.Quotas {
		for i := range 5 {
			b = one(b, *number(&q, i))
		}
		b = wire.Num(b, q.Cap, 8)
	}
	return one(one(one(one(b, r.Orders), r.Audits), r.Rate), r.Rounds)
}

// fits tells whether a realm's numbers and lists have the sizes that its bytes tell.
func fits(r api.Realm) bool {
	ok := len(r.Labels) == len(r.Quotas)
	for _, n := range []int{len(r.Labels), len(r.Lines), len(r.Accounts), len(r.Guilds)} {
		ok = ok && n <= 8
	}
	for _, a := range r.Accounts {
		ok = ok && len(a.Name) <= api.MaxName && len(a.Secret) <= api.MaxName
	}
	return ok
}

// What may not be is told when all bytes are there, and none is left.
func TestReadWrong(t *testing.T) {
	told := 0
	for _, x := range wrong() {
		r := x.after()
		b := unchecked(r)
		if got, e := Read(b); e == api.OK && !bytes.Equal(Bytes(got), b) {
			t.Error(x.what, "is read as", got)
		}
		if !fits(r) || slices.Equal(b, Bytes(town())) {
			continue
		}
		if got, e := Read(b); e == api.OK && Right(got) {
			// A number has become another one in its byte, which may be.
			continue
		}
		told++
		fault(t, x.what, b, api.ErrForm)
		fault(t, x.what+", and one left", append(slices.Clone(b), 1), api.ErrLong)
		fault(t, x.what+", and one missing", b[:len(b)-1], api.ErrShort)
	}
	if told < 80 {
		t.Error("just", told)
	}
}

// A label that may not be is not taken for the bottom.
func TestReadWrongBottom(t *testing.T) {
	for level := 1; level < 256; level++ {
		b := Bytes(least())
		b[1] = byte(level)
		fault(t, "a bottom with a level", b, api.ErrForm)
		fault(t, "a bottom with a level, one left", append(slices.Clone(b), 0), api.ErrLong)
		fault(t, "a bottom with a level, one missing", b[:len(b)-1], api.ErrShort)
	}
}

// P5.3

func TestReadAsMade(t *testing.T) {
	for _, r := range sample() {
		b := Bytes(r)
		if got, e := Read(b); !same(got, r) || e != api.OK {
			t.Error(r, got, e)
		}
	}
}

func TestNothingElseIsRead(t *testing.T) {
	for _, r := range []api.Realm{least(), town(), full()} {
		was := Bytes(r)
		for i := range was {
			for n := range 256 {
				b := slices.Clone(was)
				b[i] = byte(n)
				got, e := Read(b)
				if e == api.OK && (!Right(got) || !bytes.Equal(Bytes(got), b)) || e != api.OK && !reflect.DeepEqual(got, api.Realm{}) {
					t.Fatal(i, n, got, e)
				}
			}
		}
	}
}

// P5.4

func TestHallsBelow(t *testing.T) {
	for _, r := range sample() {
		for place, a := range r.Labels {
			if !Leq(r, 0, place) {
				t.Error("the bottom", r, place)
			}
			for _, bit := range label.Bits(a) {
				guild := slices.IndexFunc(r.Guilds, func(g api.Guild) bool { return g.Bit == bit })
				if !Leq(r, HallOf(r, guild), place) || !slices.Contains(Guilds(r, place), guild) {
					t.Error("a hall", r, place, guild)
				}
			}
		}
		for guild := range r.Guilds {
			if h := HallOf(r, guild); GuildOf(r, h) != guild || !slices.Equal(Guilds(r, h), []int{guild}) {
				t.Error("a guild", r, guild, h)
			}
		}
	}
}

// Rule 5: what is handed in stays as it is, and is not kept.

func TestHandedIn(t *testing.T) {
	r := town()
	b := Bytes(r)
	got, _ := Read(b)
	for i := range b {
		b[i] = 255
	}
	if !same(got, town()) || !same(r, town()) {
		t.Error("changed", got, r)
	}
	for range 2 {
		b = Bytes(r)
		Leq(r, 0, 1)
		Place(r, at(2))
		Account(r, "bob")
		if !same(r, town()) || !bytes.Equal(b, Bytes(town())) {
			t.Error("changed", r, b)
		}
		b[0] = 9
	}
}
