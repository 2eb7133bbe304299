package hall

import (
	"math"
	"reflect"
	"slices"
	"testing"

	"rialto/api"
)

// at is the label of a level and some compartments.
func at(level int, bits ...int) api.Label {
	a := api.Label{Level: level}
	for _, bit := range bits {
		a.Comps |= 1 << bit
	}
	return a
}

// The accounts of the town.
const (
	alice = 0 // Level 3, the founder of guild 1
	bob   = 1 // Level 0, the founder of guild 0
	carol = 2 // Level 1
)

// town is a realm of two guilds, whose halls are the labels 1 and 2.
func town() api.Realm {
	return api.Realm{
		Labels: []api.Label{at(0), at(0, 2), at(0, 5), at(1, 2), at(2), at(3, 2, 5)},
		Lines:  []int{0, 5, 3, 0},
		Accounts: []api.Account{
			{Name: "alice", Secret: "rose", Level: 3, Mints: true},
			{Name: "bob", Secret: "rose"},
			{Name: "carol", Secret: "lily", Level: 1},
		},
		Guilds: []api.Guild{{Bit: 2, Founder: bob}, {Bit: 5, Founder: alice}},
		Quotas: []api.Quota{{Rooms: 1}, {}, {Rooms: 12}, {Cap: 9}, {Trades: 7}, {Mails: 1}},
		Orders: 10, Audits: 20, Rate: 3, Rounds: 4,
	}
}

// least is a realm without guilds.
func least() api.Realm {
	return api.Realm{Labels: []api.Label{{}}, Lines: []int{0}, Accounts: []api.Account{{Name: "a", Secret: "s"}}, Quotas: []api.Quota{{Rooms: 1}}, Rate: 1, Rounds: 1}
}

// full is a realm of as many guilds and accounts as there may be.
func full() api.Realm {
	r := least()
	r.Accounts = nil
	for i := range 8 {
		r.Accounts = append(r.Accounts, api.Account{Name: string(rune('a' + i)), Secret: "s", Level: i % 4})
	}
	for i, bit := range []int{0, 1, 31, 32, 40, 62, 63} {
		r.Labels = append(r.Labels, at(0, bit))
		r.Quotas = append(r.Quotas, api.Quota{})
		r.Guilds = append(r.Guilds, api.Guild{Bit: bit, Founder: 7 - i})
	}
	return r
}

// broken are realms that may not be, for which the town's ranks would do.
func broken() []api.Realm {
	out := []api.Realm{{}}
	for _, do := range []func(r *api.Realm){
		func(r *api.Realm) { r.Rate = 0 },
		func(r *api.Realm) { r.Lines = nil },
		func(r *api.Realm) { r.Quotas[0].Rooms = 0 },
		func(r *api.Realm) { r.Labels[4].Level = 4 },
		func(r *api.Realm) { r.Accounts[2].Name = "bob" },
		func(r *api.Realm) { r.Accounts[2].Level = 4 },
		func(r *api.Realm) { r.Guilds[0].Founder = 3 },
		func(r *api.Realm) { r.Guilds[0].Founder = -1 },
		func(r *api.Realm) { r.Guilds[1].Founder = math.MaxInt },
		func(r *api.Realm) { r.Guilds[0].Founder = math.MinInt },
		func(r *api.Realm) { r.Guilds[1].Bit = 6 },
		func(r *api.Realm) { r.Guilds[1].Bit = -1 },
	} {
		r := town()
		do(&r)
		out = append(out, r)
	}
	return out
}

// far are places of nothing, where there are n.
func far(n int) []int { return []int{math.MinInt, -n, -1, n, n + 1, 256, math.MaxInt} }

// matrices are the ranks of the town with each number from 0 to 2 everywhere.
func matrices() [][][]int {
	var out [][][]int
	for n := range 3 * 3 * 3 * 3 * 3 * 3 {
		ranks := make([][]int, 2)
		for range 3 {
			for guild := range ranks {
				ranks[guild] = append(ranks[guild], n%3)
				n /= 3
			}
		}
		out = append(out, ranks)
	}
	return out
}

// fine are those of the matrices that may be.
func fine() [][][]int {
	return slices.DeleteFunc(matrices(), func(ranks [][]int) bool { return ranks[0][bob] != 2 || ranks[1][alice] != 2 })
}

// fresh are the town's new ranks, written out.
func fresh() [][]int { return [][]int{{0, 2, 0}, {2, 0, 0}} }

// wrong are ranks that the town may not have.
func wrong() [][][]int {
	out := [][][]int{
		nil, {}, {{}, {}}, {nil, nil},
		{{0, 2, 0}}, {{2, 0, 0}}, {{0, 2, 0}, {2, 0, 0}, {0, 0, 0}}, {{0, 2, 0}, {2, 0, 0}, nil},
		{{0, 2, 0}, nil}, {nil, {2, 0, 0}}, {{0, 2}, {2, 0, 0}}, {{0, 2, 0}, {2, 0}}, {{0, 2, 0, 0}, {2, 0, 0}}, {{0, 2, 0}, {2, 0, 0, 0}},
		{{0, 1, 0}, {2, 0, 0}}, {{0, 2, 0}, {1, 0, 0}}, {{0, 0, 0}, {2, 0, 0}}, {{0, 2, 0}, {0, 0, 0}}, {{2, 0, 0}, {0, 2, 0}}, {{2, 1, 2}, {2, 2, 2}},
		make([][]int, 1<<16), {make([]int, 1<<16), make([]int, 1<<16)},
	}
	for _, n := range []int{math.MinInt, -2, -1, 3, 4, 256, 258, math.MaxInt} {
		for guild := range 2 {
			for who := range 3 {
				ranks := fresh()
				ranks[guild][who] = n
				out = append(out, ranks)
			}
		}
	}
	return out
}

// cleared works out anew who is cleared for which place, in the town.
func cleared(ranks [][]int, who, place int) bool {
	if who < 0 || who > 2 || place < 0 || place > 5 {
		return false
	}
	level := []int{3, 0, 1}[who]
	first, second := ranks[0][who] > 0, ranks[1][who] > 0
	return []bool{true, first, second, first && level >= 1, level >= 2, first && second && level == 3}[place]
}

// P14.1

func TestNew(t *testing.T) {
	if got := New(town()); !reflect.DeepEqual(got, fresh()) {
		t.Error("the town", got)
	}
	if got := New(least()); len(got) != 0 {
		t.Error("no guilds", got)
	}
	got := New(full())
	if len(got) != 7 {
		t.Fatal("the full one", got)
	}
	for guild, row := range got {
		want := make([]int, 8)
		want[7-guild] = 2
		if !slices.Equal(row, want) {
			t.Error("the full one", guild, row)
		}
	}
	for i, r := range broken() {
		if got := New(r); len(got) != 0 {
			t.Error("of a realm that may not be", i, got)
		}
	}
	one := town()
	one.Guilds[1].Founder = bob
	if got := New(one); !reflect.DeepEqual(got, [][]int{{0, 2, 0}, {0, 2, 0}}) {
		t.Error("one founder of both", got)
	}
}

func TestRight(t *testing.T) {
	for _, ranks := range matrices() {
		want := ranks[0][bob] == 2 && ranks[1][alice] == 2
		if Right(town(), ranks) != want {
			t.Error(ranks, "is not", want)
		}
	}
	for _, ranks := range wrong() {
		if Right(town(), ranks) {
			t.Error("may not be", len(ranks), ranks[:min(len(ranks), 2)])
		}
	}
	for i, r := range broken() {
		if Right(r, fresh()) || Right(r, nil) {
			t.Error("a realm that may not be", i)
		}
	}
	if !Right(least(), nil) || !Right(least(), [][]int{}) || Right(least(), [][]int{{}}) || Right(least(), [][]int{{2}}) || Right(least(), [][]int{nil}) {
		t.Error("no guilds")
	}
	if !Right(full(), New(full())) || Right(full(), fresh()) || Right(town(), New(full())) {
		t.Error("the full one")
	}
}

func TestBehindTheEnd(t *testing.T) {
	ranks := [][]int{[]int{0, 2, 0, 9}[:3], []int{2, 0, 0, 9}[:3], {7}}[:2]
	if !Right(town(), ranks) || Rank(town(), ranks, 0, 3) != 0 || Rank(town(), ranks, 2, 0) != 0 {
		t.Error("what lies behind is read")
	}
	got, e := Invite(town(), ranks, 1, bob, carol)
	if e != api.OK || !reflect.DeepEqual(got, [][]int{{0, 2, 1}, {2, 0, 0}}) {
		t.Error(got, e)
	}
	for guild := range got {
		_ = append(got[guild], 8)
		if slices.Contains(got[guild][:cap(got[guild])], 9) {
			t.Error("what lies behind is handed out", got)
		}
	}
	_ = append(got, nil)
	if ranks[0][:4][3] != 9 || ranks[1][:4][3] != 9 || ranks[:3][2][0] != 7 {
		t.Error("what lies behind is written", ranks[:3])
	}
}

func TestCleared(t *testing.T) {
	for _, ranks := range fine() {
		for who := -1; who < 4; who++ {
			for place := -1; place < 7; place++ {
				if want := cleared(ranks, who, place); Cleared(town(), ranks, who, place) != want {
					t.Error(ranks, who, place, "is not", want)
				}
			}
		}
	}
}

func TestClearedWritten(t *testing.T) {
	ranks := [][]int{{1, 2, 1}, {2, 1, 0}}
	for who, want := range [][]bool{
		{true, true, true, true, true, true},
		{true, true, true, false, false, false},
		{true, true, false, true, false, false},
	} {
		for place := range want {
			if Cleared(town(), ranks, who, place) != want[place] {
				t.Error(who, place, "is not", want[place])
			}
		}
	}
	ranks[0][alice] = 0
	if Cleared(town(), ranks, alice, 5) || Cleared(town(), ranks, alice, 3) || !Cleared(town(), ranks, alice, 4) {
		t.Error("one guild is missing")
	}
}

func TestClearedOfNobody(t *testing.T) {
	ranks := [][]int{{2, 2, 2}, {2, 2, 2}}
	for _, who := range far(3) {
		if Cleared(town(), ranks, who, 0) {
			t.Error("no account", who)
		}
	}
	for _, place := range far(6) {
		if Cleared(town(), ranks, alice, place) {
			t.Error("no label", place)
		}
	}
	for _, ranks := range wrong() {
		if Cleared(town(), ranks, alice, 0) || Cleared(town(), ranks, bob, 1) {
			t.Error("ranks that may not be", len(ranks))
		}
	}
	for i, r := range broken() {
		if Cleared(r, fresh(), alice, 0) || Cleared(r, nil, alice, 0) {
			t.Error("a realm that may not be", i)
		}
	}
}

func TestRank(t *testing.T) {
	for _, ranks := range fine() {
		for guild := range 2 {
			for who := range 3 {
				if n := Rank(town(), ranks, guild, who); n != ranks[guild][who] {
					t.Error(ranks, guild, who, n)
				}
			}
		}
	}
	all := [][]int{{2, 2, 2}, {2, 2, 2}}
	for _, guild := range far(2) {
		if n := Rank(town(), all, guild, bob); n != 0 {
			t.Error("no guild", guild, n)
		}
	}
	for _, who := range far(3) {
		if n := Rank(town(), all, 0, who); n != 0 {
			t.Error("no account", who, n)
		}
	}
	for _, ranks := range wrong() {
		if Rank(town(), ranks, 0, bob) != 0 || Rank(town(), ranks, 1, alice) != 0 || Rank(town(), ranks, 2, 0) != 0 {
			t.Error("ranks that may not be", len(ranks))
		}
	}
	for i, r := range broken() {
		if n := Rank(r, fresh(), 0, bob); n != 0 {
			t.Error("a realm that may not be", i, n)
		}
	}
}

// P14.2

// deed is one of the three.
type deed struct {
	what string
	do   func(r api.Realm, ranks [][]int, place, by, who int) ([][]int, api.Errno)
	// rule tells what comes of a rank, of a founder and of others.
	rule func(rank int, founder bool) (int, api.Errno)
}

func deeds() []deed {
	return []deed{
		{"Invite", Invite, func(rank int, _ bool) (int, api.Errno) {
			return []int{1, 0, 0}[rank], []api.Errno{api.OK, api.ErrTaken, api.ErrTaken}[rank]
		}},
		{"Raise", Raise, func(rank int, _ bool) (int, api.Errno) {
			return []int{0, 2, 0}[rank], []api.Errno{api.ErrNone, api.OK, api.ErrTaken}[rank]
		}},
		{"Expel", Expel, func(rank int, founder bool) (int, api.Errno) {
			if founder {
				return 0, api.ErrDenied
			}
			return 0, []api.Errno{api.ErrNone, api.OK, api.OK}[rank]
		}},
	}
}

// behind works out anew what comes of a deed, in the town, of ranks that may be.
func (x deed) behind(ranks [][]int, place, by, who int) ([][]int, api.Errno) {
	guild := place - 1
	switch {
	case place < 0 || place > 5 || by < 0 || by > 2 || who < 0 || who > 2:
		return nil, api.ErrArg
	case guild != 0 && guild != 1:
		return nil, api.ErrKind
	case ranks[guild][by] != 2:
		return nil, api.ErrDenied
	}
	rank, e := x.rule(ranks[guild][who], who == []int{bob, alice}[guild])
	if e != api.OK {
		return nil, e
	}
	out := copied(ranks)
	out[guild][who] = rank
	return out, api.OK
}

// refused holds what a deed answers against an error, with nothing beside it.
func (x deed) refused(t *testing.T, r api.Realm, ranks [][]int, place, by, who int, want api.Errno) {
	t.Helper()
	if got, e := x.do(r, ranks, place, by, who); len(got) != 0 || e != want {
		t.Error(x.what, "at", place, "by", by, "of", who, "is", got, e, "and not", want)
	}
}

func TestDeeds(t *testing.T) {
	for _, x := range deeds() {
		for _, ranks := range fine() {
			was := copied(ranks)
			for place := -1; place < 7; place++ {
				for by := -1; by < 4; by++ {
					for who := -1; who < 4; who++ {
						want, e := x.behind(was, place, by, who)
						got, f := x.do(town(), ranks, place, by, who)
						if e != f || len(got) != len(want) || e == api.OK && !reflect.DeepEqual(got, want) {
							t.Error(x.what, was, "at", place, "by", by, "of", who, "is", got, f, "and not", want, e)
						}
					}
				}
			}
			if !reflect.DeepEqual(ranks, was) {
				t.Error(x.what, "changed", was, "to", ranks)
			}
		}
	}
}

func TestExample(t *testing.T) {
	r, ranks := town(), [][]int{{2, 0, 0}, {0, 2, 0}}
	r.Guilds[0].Founder, r.Guilds[1].Founder = alice, bob
	if Cleared(r, ranks, bob, 1) {
		t.Error("bob is cleared ahead")
	}
	ranks, e := Invite(r, ranks, 1, alice, bob)
	if e != api.OK || Rank(r, ranks, 0, bob) != 1 || !Cleared(r, ranks, bob, 1) {
		t.Error(ranks, e)
	}
}

func TestDeedsWritten(t *testing.T) {
	ranks := [][]int{{1, 2, 2}, {2, 0, 1}}
	for _, x := range []struct {
		deed           int
		place, by, who int
		want           [][]int
		e              api.Errno
	}{
		{0, 2, alice, bob, [][]int{{1, 2, 2}, {2, 1, 1}}, api.OK},
		{0, 2, alice, carol, nil, api.ErrTaken},
		{0, 2, alice, alice, nil, api.ErrTaken},
		{0, 2, carol, bob, nil, api.ErrDenied},
		{0, 2, bob, bob, nil, api.ErrDenied},
		{0, 0, bob, bob, nil, api.ErrKind},
		{0, 3, bob, alice, nil, api.ErrKind},
		{1, 1, carol, alice, [][]int{{2, 2, 2}, {2, 0, 1}}, api.OK},
		{1, 1, alice, alice, nil, api.ErrDenied},
		{1, 1, bob, carol, nil, api.ErrTaken},
		{1, 1, carol, carol, nil, api.ErrTaken},
		{1, 2, alice, bob, nil, api.ErrNone},
		{1, 2, alice, carol, [][]int{{1, 2, 2}, {2, 0, 2}}, api.OK},
		{1, 5, alice, carol, nil, api.ErrKind},
		{2, 1, carol, alice, [][]int{{0, 2, 2}, {2, 0, 1}}, api.OK},
		{2, 1, carol, carol, [][]int{{1, 2, 0}, {2, 0, 1}}, api.OK},
		{2, 1, bob, carol, [][]int{{1, 2, 0}, {2, 0, 1}}, api.OK},
		{2, 1, carol, bob, nil, api.ErrDenied},
		{2, 1, bob, bob, nil, api.ErrDenied},
		{2, 1, alice, carol, nil, api.ErrDenied},
		{2, 2, alice, bob, nil, api.ErrNone},
		{2, 2, bob, bob, nil, api.ErrDenied},
		{2, 4, alice, bob, nil, api.ErrKind},
		{2, 6, alice, bob, nil, api.ErrArg},
	} {
		got, e := deeds()[x.deed].do(town(), ranks, x.place, x.by, x.who)
		if e != x.e || len(got) != len(x.want) || e == api.OK && !reflect.DeepEqual(got, x.want) {
			t.Error(x, "is", got, e)
		}
	}
}

func TestWrongDeeds(t *testing.T) {
	for _, x := range deeds() {
		for _, place := range far(6) {
			x.refused(t, town(), fresh(), place, bob, carol, api.ErrArg)
		}
		for _, n := range far(3) {
			x.refused(t, town(), fresh(), 1, n, carol, api.ErrArg)
			x.refused(t, town(), fresh(), 1, bob, n, api.ErrArg)
			// Ahead of a place that is no hall.
			x.refused(t, town(), fresh(), 0, n, carol, api.ErrArg)
			x.refused(t, town(), fresh(), 0, bob, n, api.ErrArg)
			// Ahead of one who is no officer.
			x.refused(t, town(), fresh(), 1, carol, n, api.ErrArg)
		}
		for _, ranks := range wrong() {
			x.refused(t, town(), ranks, 1, bob, carol, api.ErrArg)
			x.refused(t, town(), ranks, 2, alice, carol, api.ErrArg)
			x.refused(t, town(), ranks, 0, alice, carol, api.ErrArg)
		}
		for _, r := range broken() {
			x.refused(t, r, fresh(), 1, bob, carol, api.ErrArg)
			x.refused(t, r, nil, 0, bob, carol, api.ErrArg)
		}
		for _, place := range []int{0, 3, 4, 5} {
			// Ahead of one who is no officer, or not cleared.
			for by := range 3 {
				x.refused(t, town(), fresh(), place, by, carol, api.ErrKind)
			}
		}
		x.refused(t, least(), nil, 0, 0, 0, api.ErrKind)
		x.refused(t, least(), nil, 1, 0, 0, api.ErrArg)
	}
}

// Whoever is no officer is told so, whatever there would be to tell of the other one.
func TestDeniedAhead(t *testing.T) {
	for _, x := range deeds() {
		for _, rank := range []int{0, 1} {
			for who := range 3 {
				ranks := [][]int{{rank, 2, 0}, {2, 2, 2}}
				x.refused(t, town(), ranks, 1, alice, who, api.ErrDenied)
			}
		}
	}
}

// An account of Level 0 acts in a hall, as a hall has none.
func TestEachHall(t *testing.T) {
	r := full()
	for guild, g := range r.Guilds {
		got, e := Invite(r, New(r), guild+1, g.Founder, 0)
		want := New(r)
		want[guild][0] = 1
		if e != api.OK || !reflect.DeepEqual(got, want) {
			t.Error(guild, got, e)
		}
		if got, e := Invite(r, New(r), guild+1, g.Founder-1, 0); len(got) != 0 || e != api.ErrDenied {
			t.Error("the founder of another one", guild, got, e)
		}
	}
}

// spoil puts other numbers everywhere, and behind each row.
func spoil(ranks [][]int) {
	for _, row := range ranks {
		_ = append(row, 9, 9)
		for who := range row {
			row[who] = 7
		}
	}
	clear(ranks)
}

// copied is ranks that have no memory in common.
func copied(ranks [][]int) [][]int {
	var out [][]int
	for _, row := range ranks {
		out = append(out, slices.Clone(row))
	}
	return out
}

func TestNewMemory(t *testing.T) {
	spoil(New(town()))
	if got := New(town()); !reflect.DeepEqual(got, fresh()) {
		t.Error("New", got)
	}
	for i, ranks := range [][][]int{{{1, 2, 0}, {2, 0, 0}}, {{1, 2, 1}, {2, 0, 0}}, {{1, 2, 1}, {2, 0, 0}}} {
		x, was := deeds()[i], copied(ranks)
		got, e := x.do(town(), ranks, 1, bob, carol)
		if e != api.OK {
			t.Fatal(x.what, e)
		}
		spoil(got)
		if !reflect.DeepEqual(ranks, was) {
			t.Error(x.what, "what was handed in has memory in common", ranks)
		}
		got, _ = x.do(town(), ranks, 1, bob, carol)
		want := copied(got)
		spoil(ranks)
		if !reflect.DeepEqual(got, want) {
			t.Error(x.what, "what was handed in is kept", got)
		}
	}
}

func TestRowsApart(t *testing.T) {
	rows := New(town())
	if next, e := Invite(town(), rows, 1, bob, carol); e == api.OK {
		rows = append(rows, next...)
	}
	want := copied(rows)
	for i, row := range rows {
		_ = append(row, 9, 9)
		row[0] = 7
		if !reflect.DeepEqual(rows[i+1:], want[i+1:]) {
			t.Error("rows have memory in common", rows)
		}
	}
	if len(rows) != 4 {
		t.Error(rows)
	}
}

// P14.3

// steps goes on from new ranks by all deeds, again and again, and tells of each step.
func steps(r api.Realm, tell func(place int, was, now [][]int)) [][][]int {
	all := [][][]int{New(r)}
	for i := 0; i < len(all); i++ {
		for _, x := range deeds() {
			for place := range r.Labels {
				for by := range r.Accounts {
					for who := range r.Accounts {
						now, e := x.do(r, all[i], place, by, who)
						if e != api.OK {
							continue
						}
						tell(place, all[i], now)
						if !slices.ContainsFunc(all, func(ranks [][]int) bool { return reflect.DeepEqual(ranks, now) }) {
							all = append(all, now)
						}
					}
				}
			}
		}
	}
	return all
}

func TestWhatComesOfIt(t *testing.T) {
	all := steps(town(), func(place int, was, now [][]int) {
		if !Right(town(), now) || Rank(town(), now, 0, bob) != 2 || Rank(town(), now, 1, alice) != 2 {
			t.Error("at", place, was, now)
		}
	})
	// All that may be are come to, and nothing else.
	if len(all) != len(fine()) {
		t.Error(len(all))
	}
}

func TestClearedBelow(t *testing.T) {
	labels := town().Labels
	for _, ranks := range fine() {
		for who := range 3 {
			for high, a := range labels {
				for low, b := range labels {
					below := b.Level <= a.Level && b.Comps&^a.Comps == 0
					if below && Cleared(town(), ranks, who, high) && !Cleared(town(), ranks, who, low) {
						t.Error(ranks, who, high, low)
					}
				}
			}
		}
	}
}

// P14.4

func TestOneNumberChanges(t *testing.T) {
	n := 0
	steps(town(), func(place int, was, now [][]int) {
		n++
		changed := 0
		for guild := range now {
			for who := range now[guild] {
				if now[guild][who] != was[guild][who] {
					changed++
					if guild != place-1 {
						t.Error("of another guild, at", place, was, now)
					}
				}
			}
		}
		if changed != 1 {
			t.Error("at", place, was, now)
		}
	})
	if n == 0 {
		t.Error("nothing was done")
	}
}
