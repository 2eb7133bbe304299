package bound

import (
	"bytes"
	"reflect"
	"slices"
	"strconv"
	"testing"

	"rialto/api"
	"rialto/disk"
	"rialto/image"
	"rialto/state"
	"rialto/town"
	"rialto/vault"
)

// shop is a realm of one label, of which all numbers but those of its quota are the least ones.
func shop(q api.Quota) api.Realm {
	r := town.Least()
	q.Rooms++
	r.Quotas = []api.Quota{q}
	return r
}

// people is the shop of so many accounts.
func people(n int) api.Realm {
	r := shop(api.Quota{})
	r.Accounts = nil
	for i := range n {
		r.Accounts = append(r.Accounts, api.Account{Name: "p" + strconv.Itoa(i), Secret: "s"})
	}
	return r
}

// with is a realm behind a change.
func with(r api.Realm, do func(r *api.Realm)) api.Realm {
	do(&r)
	return r
}

// wanted is a realm, and what the document makes of it by hand.
type wanted struct {
	what                         string
	r                            api.Realm
	image, record, area, sectors int
}

// table is some realms; the Each of all is told by the record.
func table() []wanted {
	return []wanted{
		{"the least", town.Least(), 122, 69, 2, 5},
		// 9 and 6; 2 of 3; 9 rooms, 11 exits, 22 items, 9 letters, 7 trades; 18 of 34; 6 of 64; 4 orders, 6 entries.
		{"the town", town.Realm(), 15 + 6 + 126 + 66 + 396 + 405 + 161 + 612 + 384 + 92 + 186, 374, 23, 58},
		// 9 and 8; 7 of 8; 96 of each; 64 of 34; 8 of 64; 24 orders, 48 entries.
		{"the full one", town.Full(), 17 + 56 + 96*106 + 2176 + 512 + 552 + 1488, 496, 139, 358},
		{"a room more", shop(api.Quota{Rooms: 1}), 136, 69, 2, 5},
		{"an exit", shop(api.Quota{Exits: 1}), 128, 69, 2, 5},
		{"an item", shop(api.Quota{Items: 1}), 140, 69, 2, 5},
		{"a letter", shop(api.Quota{Mails: 1}), 167, 69, 2, 5},
		{"a trade", shop(api.Quota{Trades: 1}), 145, 69, 2, 5},
		{"a cap", shop(api.Quota{Cap: api.MaxTotal}), 122, 69, 2, 5},
		{"as much as two sectors have room for", shop(api.Quota{Rooms: 1, Mails: 1, Trades: 1}), 204, 69, 2, 5},
		{"a byte more", shop(api.Quota{Exits: 1, Items: 3, Trades: 1}), 205, 69, 3, 7},
		{"two accounts", people(2), 156, 69, 2, 5},
		{"eight accounts", people(8), 360, 69, 4, 9},
		{"an order", with(town.Least(), func(r *api.Realm) { r.Orders = 1 }), 145, 69, 2, 5},
		{"an entry", with(town.Least(), func(r *api.Realm) { r.Audits = 1 }), 153, 69, 2, 5},
		{"a line more", with(town.Least(), func(r *api.Realm) { r.Lines = []int{0, 0} }), 123, 130, 2, 6},
		{"sixteen rounds", with(town.Least(), func(r *api.Realm) { r.Rounds = 16 }), 122, 69, 2, 20},
		{"the greatest Rate", with(town.Least(), func(r *api.Realm) { r.Rate = 4 }), 122, 69, 2, 5},
		{"a guild", with(people(3), func(r *api.Realm) {
			r.Labels, r.Guilds, r.Quotas = append(r.Labels, api.Label{Comps: 1}), []api.Guild{{}}, append(r.Quotas, api.Quota{})
		}), 9 + 1 + 3 + 14 + 6*34 + 2*64, 69, 4, 9},
		{"a label", with(town.Least(), func(r *api.Realm) {
			r.Labels, r.Quotas = append(r.Labels, api.Label{Level: 3}), append(r.Quotas, api.Quota{Mails: 12})
		}), 122 + 34 + 64 + 12*45, 69, 8, 17},
	}
}

// realms are some that may be: those of the table, and the full one with less of something.
func realms() []api.Realm {
	var out []api.Realm
	for _, x := range table() {
		out = append(out, x.r)
	}
	for n := range 13 {
		r := town.Full()
		for i := range r.Quotas {
			r.Quotas[i] = api.Quota{Rooms: max(n, 1), Exits: 12 - n, Items: n * i % 13, Mails: (n + i) % 13, Trades: n, Cap: uint64(i)}
		}
		r.Orders, r.Audits, r.Rounds, r.Lines = 2*n, 4*n, 1+n, r.Lines[:1+n%8]
		out = append(out, r)
	}
	return out
}

// greatest works out anew how many bytes the greatest image has.
func greatest(r api.Realm) int {
	n := 8 + len(r.Lines) + len(r.Guilds)*len(r.Accounts)
	for _, q := range r.Quotas {
		n += q.Rooms*(1+1+12) + q.Exits*(1+4+1) + q.Items*(1+1+12+4) + q.Mails*(1+3+1+40) + q.Trades*(1+2+20)
		n += len(r.Accounts)*(4*8+2) + 2*4*8
	}
	return n + r.Orders*(1+5+16+1) + 1 + r.Audits*31
}

// fits tells whether a plan has room for a state and a record of a realm.
func fits(r api.Realm, p api.Plan) bool {
	state, record := vault.Room(p)
	return p.Places == r.Rounds && state >= Image(r) && record >= Record(r)
}

// P24.1

func TestImageAndRecord(t *testing.T) {
	for _, x := range table() {
		if n := Image(x.r); n != x.image {
			t.Error(x.what, "Image", n, "and not", x.image)
		}
		if n := Record(x.r); n != x.record {
			t.Error(x.what, "Record", n, "and not", x.record)
		}
	}
	for i, r := range realms() {
		if n := Image(r); n != greatest(r) {
			t.Error(i, "Image", n, "and not", greatest(r))
		}
		if n := Record(r); n != 8+61*len(r.Lines) {
			t.Error(i, "Record", n)
		}
	}
}

func TestPlanAndSectors(t *testing.T) {
	for _, x := range table() {
		want := api.Plan{Area: x.area, Places: x.r.Rounds, Each: (x.record + 4 + 107) / 108}
		if p, e := Plan(x.r); p != want || e != api.OK {
			t.Error(x.what, "Plan", p, e, "and not", want)
		}
		if n := Sectors(x.r); n != x.sectors {
			t.Error(x.what, "Sectors", n, "and not", x.sectors)
		}
	}
	for i, r := range realms() {
		// 12 bytes of an area are its length and the base, 4 of a record its length.
		want := api.Plan{Area: (greatest(r) + 12 + 107) / 108, Places: r.Rounds, Each: (8 + 61*len(r.Lines) + 4 + 107) / 108}
		if p, e := Plan(r); p != want || e != api.OK {
			t.Error(i, "Plan", p, e, "and not", want)
		}
		if n := Sectors(r); n != 2*want.Area+want.Places*want.Each {
			t.Error(i, "Sectors", n)
		}
	}
}

func TestExample(t *testing.T) {
	p, e := Plan(town.Least())
	if n := Record(town.Least()); n != 69 || p.Each != 1 || e != api.OK {
		t.Error(n, p, e)
	}
}

// An image, and a record, that just have room, and such as have one byte too many for that.
func TestEdges(t *testing.T) {
	edges := map[int]bool{}
	for _, r := range many() {
		p, e := Plan(r)
		if e != api.OK {
			t.Fatal(e)
		}
		over := (Image(r) + 12) % 108
		if over == 0 || over == 1 {
			edges[over] = true
		}
		if p.Area*108 < Image(r)+12 || (p.Area-1)*108 >= Image(r)+12 {
			t.Error(Image(r), p)
		}
	}
	if len(edges) != 2 {
		t.Error("no edges", edges)
	}
}

// many are realms of one label whose images have many sizes.
func many() []api.Realm {
	var out []api.Realm
	for exits := range 13 {
		for items := range 13 {
			for trades := range 13 {
				out = append(out, shop(api.Quota{Exits: exits, Items: items, Trades: trades}))
			}
		}
	}
	return out
}

func TestWrongRealm(t *testing.T) {
	for i, r := range town.Wrong() {
		p, e := Plan(r)
		if e != api.ErrArg || p != (api.Plan{}) {
			t.Error(i, "Plan", p, e)
		}
		if Image(r) != 0 || Record(r) != 0 || Sectors(r) != 0 {
			t.Error(i, Image(r), Record(r), Sectors(r))
		}
	}
	r := api.Realm{Labels: make([]api.Label, 1<<20), Lines: make([]int, 1<<20), Quotas: make([]api.Quota, 1<<20)}
	if _, e := Plan(r); e != api.ErrArg || Image(r) != 0 || Record(r) != 0 || Sectors(r) != 0 {
		t.Error("far too many")
	}
}

// P24.2

func TestNoLongerImage(t *testing.T) {
	for i, r := range append(realms(), many()...) {
		s := town.Packed(r)
		if !state.Right(r, s) {
			t.Fatal("a packed state may not be", i)
		}
		if n := len(image.Bytes(r, s)); n > Image(r) {
			t.Error(i, "has", n, "and not", Image(r))
		}
	}
	for _, r := range []api.Realm{town.Realm(), town.Full(), town.Least()} {
		if n := len(image.Bytes(r, town.Packed(r))); n != Image(r) {
			t.Error("a packed state has", n, "and not", Image(r))
		}
		fresh, e := state.New(r)
		if n := len(image.Bytes(r, fresh)); e != api.OK || n == 0 || n > Image(r) {
			t.Error("a new one has", n)
		}
	}
	if n := len(image.Bytes(town.Realm(), town.State())); n == 0 || n >= Image(town.Realm()) {
		t.Error("the town's has", n)
	}
}

// P24.3

func TestPlanHasRoom(t *testing.T) {
	for i, r := range append(realms(), many()...) {
		p, e := Plan(r)
		need := vault.Need(p)
		if e != api.OK || need == 0 || need > api.MaxSectors || need != Sectors(r) || !fits(r, p) {
			t.Error(i, p, e, need)
		}
		less, fewer := p, p
		less.Area--
		fewer.Each--
		if fits(r, less) || fits(r, fewer) {
			t.Error(i, "less than", p, "would do")
		}
	}
}

func TestNoSmallerDisk(t *testing.T) {
	for i, r := range realms() {
		most := Sectors(r)
		for area := 1; 2*area < most; area++ {
			for each := 1; 2*area+r.Rounds*each < most; each++ {
				if p := (api.Plan{Area: area, Places: r.Rounds, Each: each}); fits(r, p) {
					t.Error(i, p, "has room, and is smaller")
				}
			}
		}
	}
}

// A disk of so many sectors keeps the greatest image and as many rounds as the realm says, and a smaller one does not.
func TestOnADisk(t *testing.T) {
	for i, r := range realms() {
		p, _ := Plan(r)
		d, e := disk.New(Sectors(r))
		if e != api.OK {
			t.Fatal(i, e)
		}
		small, _ := disk.New(Sectors(r) - 1)
		if e := vault.Format(small, p, nil); e != api.ErrArg {
			t.Error(i, "a smaller one", e)
		}
		whole := bytes.Repeat([]byte{5}, Image(r))
		if e := vault.Format(d, p, whole); e != api.OK {
			t.Error(i, "Format", e)
		}
		v, _, _, e := vault.Open(d, p)
		if f := v.Checkpoint(whole); e != api.OK || f != api.OK {
			t.Error(i, e, f)
		}
		for range r.Rounds {
			if e := v.Commit(bytes.Repeat([]byte{6}, Record(r))); e != api.OK {
				t.Error(i, "Commit", e)
			}
		}
		_, b, records, e := vault.Open(d, p)
		if e != api.OK || !slices.Equal(b, whole) || len(records) != r.Rounds {
			t.Error(i, e, len(b), len(records))
		}
	}
}

// The rules that hold everywhere

func TestNotChanged(t *testing.T) {
	r := town.Realm()
	r.Quotas = append(r.Quotas, api.Quota{Rooms: 12})[:6]
	r.Lines = append(r.Lines, 0)[:6]
	image, record, sectors := Image(r), Record(r), Sectors(r)
	if image != Image(town.Realm()) || record != Record(town.Realm()) || sectors != Sectors(town.Realm()) {
		t.Error("what lies behind the end is counted")
	}
	if !reflect.DeepEqual(r, town.Realm()) || r.Quotas[:7][6].Rooms != 12 {
		t.Error("changed")
	}
}
