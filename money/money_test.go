package money

import (
	"math"
	"slices"
	"testing"

	"rialto/api"
	"rialto/state"
	"rialto/town"
	"rialto/trial"
)

// much is as much as all of a coin may be.
const much = 1 << 62

// at is somebody of the town who acts.
func at(line, who int) api.Me {
	return api.Me{Line: line, Label: town.Roomy().Lines[line], Who: who}
}

// rich is a realm of two labels of which each may mint half of all there may be, with a state in which a lot was made, lifted and burned.
func rich() trial.World {
	r := town.Realm()
	r.Quotas[town.Hall].Cap, r.Quotas[town.Attic].Cap, r.Quotas[town.Bottom].Cap, r.Quotas[town.Top].Cap = 0, 0, 1<<61, 1<<61
	x := trial.Fresh("rich", r)
	low, top := &x.State.Shelves[town.Bottom], &x.State.Shelves[town.Top]
	low.Minted = [4]uint64{1 << 61, 1<<61 - 1, 5, 0}
	top.Minted = [4]uint64{1 << 61, 1 << 61, 0, 1 << 61}
	top.Burned = [4]uint64{0, 1<<61 + 7, 0, 1 << 61}
	low.Purses[town.Alice] = [4]uint64{0, 3, 5, 0}
	top.Purses[town.Bob] = [4]uint64{much, 0, 0, 0}
	low.Purses[town.Carol] = [4]uint64{0, 1<<61 - 1 - 3 - 7, 0, 0}
	return x
}

// sole is a realm of the bottom alone, where all that there may be may be minted, by one account of two.
func sole() trial.World {
	r := town.Least()
	r.Accounts[0].Mints = true
	r.Accounts = append(r.Accounts, api.Account{Name: "b", Secret: "s"})
	r.Quotas[0].Cap = much
	return trial.Fresh("sole", r)
}

func worlds() []trial.World { return append(trial.Worlds(), rich(), sole()) }

// numbers are accounts, places and coins that there are, and that there are not.
func numbers() []int {
	return []int{math.MinInt, math.MinInt32, -256, -2, -1, 0, 1, 2, 3, 4, 5, 6, 7, 8, 127, 128, 255, 256, 1 << 32, 1<<32 + 1, math.MaxInt}
}

// amounts are some about a limit, and others.
func amounts(limit uint64) []uint64 {
	out := []uint64{1, limit - 1, limit, limit + 1, much, much + 1, 1 << 63, math.MaxUint64 - limit, math.MaxUint64 - limit + 1, math.MaxUint64}
	slices.Sort(out)
	return slices.DeleteFunc(slices.Compact(out), func(n uint64) bool { return n == 0 })
}

// below tells anew whether the label of a place is at or below that of another one.
func below(r api.Realm, i, j int) bool {
	a, b := r.Labels[i], r.Labels[j]
	return a.Level <= b.Level && a.Comps&^b.Comps == 0
}

// mine is what one has.
func mine(s api.State, me api.Me) [api.Coins]uint64 { return s.Shelves[me.Label].Purses[me.Who] }

// came holds what was answered against an error, or against the old state, in which something was done by hand.
func came(t *testing.T, what string, x trial.World, me api.Me, got api.State, e, want api.Errno, do func(s *api.State)) {
	t.Helper()
	if e != want || (e != api.OK) != trial.Nothing(got) {
		t.Error(x.Name, what, me, e, "- want", want)
		return
	}
	if e != api.OK {
		return
	}
	s := state.Clone(x.State)
	do(&s)
	if !state.Same(got, s) || !state.Right(x.Realm, got) {
		t.Error(x.Name, what, me, "is another state")
	}
}

// met counts errors, and tells which of those that are wanted it never met, and whether it met others.
type met map[api.Errno]int

func (m met) all(t *testing.T, want ...api.Errno) {
	t.Helper()
	for _, e := range want {
		if m[e] == 0 {
			t.Error("never", e)
		}
	}
	if len(m) != len(want) {
		t.Error("others", m)
	}
}

// P30.1

func TestMint(t *testing.T) {
	m := met{}
	for _, x := range worlds() {
		for _, me := range town.Everyone(x.Realm) {
			for c := range api.Coins {
				limit := x.Realm.Quotas[me.Label].Cap - x.State.Shelves[me.Label].Minted[c]
				for _, n := range amounts(limit) {
					s, e := Mint(x.Realm, x.State, me, c, n)
					m[e]++
					want := api.OK
					if !x.Realm.Accounts[me.Who].Mints {
						want = api.ErrDenied
					} else if n > limit {
						want = api.ErrFull
					}
					came(t, "Mint", x, me, s, e, want, func(s *api.State) {
						s.Shelves[me.Label].Minted[c] += n
						s.Shelves[me.Label].Purses[me.Who][c] += n
					})
				}
			}
		}
	}
	m.all(t, api.OK, api.ErrDenied, api.ErrFull)
}

func TestMintByHand(t *testing.T) {
	r, s := town.Roomy(), town.Spread()
	for _, x := range []struct {
		what string
		me   api.Me
		c    int
		n    uint64
		e    api.Errno
	}{
		{"one", at(0, town.Alice), 0, 1, api.OK},
		{"up to the cap, beside what was minted", at(0, town.Alice), 0, 970, api.OK},
		{"one beyond", at(0, town.Alice), 0, 971, api.ErrFull},
		{"what was burned is not to be minted again", at(0, town.Alice), 1, 971, api.ErrFull},
		{"at another line of the label", at(5, town.Alice), 2, 980, api.OK},
		{"one beyond of another coin", at(5, town.Alice), 3, 981, api.ErrFull},
		{"the cap of the hall", at(1, town.Alice), 3, 497, api.OK},
		{"one beyond that of the hall", at(1, town.Alice), 3, 498, api.ErrFull},
		{"where all is minted", at(4, town.Alice), 0, 1, api.ErrFull},
		{"another coin there", at(4, town.Alice), 1, 50, api.OK},
		{"all that there may be", at(0, town.Alice), 0, much, api.ErrFull},
		{"what would go round", at(0, town.Alice), 0, math.MaxUint64 - 29, api.ErrFull},
		{"what would go round to one", at(0, town.Alice), 0, math.MaxUint64 - 28, api.ErrFull},
		{"who does not mint", at(0, town.Bob), 0, 1, api.ErrDenied},
		{"who does not mint, ahead of full", at(0, town.Carol), 0, 971, api.ErrDenied},
		{"a founder who does not mint, in the hall", at(1, town.Bob), 0, 1, api.ErrDenied},
		{"nothing, ahead of who does not mint", at(0, town.Bob), 0, 0, api.ErrArg},
		{"no coin, ahead of who does not mint", at(0, town.Bob), 4, 1, api.ErrArg},
		{"no coin, ahead of full", at(0, town.Alice), -1, much, api.ErrArg},
		{"nothing, ahead of full", at(4, town.Alice), 0, 0, api.ErrArg},
	} {
		n, e := Mint(r, s, x.me, x.c, x.n)
		if e != x.e || (e != api.OK) != trial.Nothing(n) {
			t.Error(x.what, e)
		}
	}
	// A cap of 0 lets nothing be minted.
	if n, e := Mint(town.Realm(), town.State(), at(3, town.Alice), 0, 1); e != api.ErrFull || !trial.Nothing(n) {
		t.Error("a cap of 0", e)
	}
}

func TestMintAllThereMayBe(t *testing.T) {
	x := sole()
	r, me := x.Realm, api.Me{}
	for _, n := range []uint64{much + 1, 1 << 63, math.MaxUint64} {
		if s, e := Mint(r, x.State, me, 3, n); e != api.ErrFull || !trial.Nothing(s) {
			t.Error("more than all", n, e)
		}
	}
	s, e := Mint(r, x.State, me, 3, much)
	if p, _ := Purse(r, s, me); e != api.OK || p != [4]uint64{3: much} {
		t.Fatal("all", e, p)
	}
	for _, n := range []uint64{1, much, math.MaxUint64} {
		if s, e := Mint(r, s, me, 3, n); e != api.ErrFull || !trial.Nothing(s) {
			t.Error("one more", n, e)
		}
		if _, e := Mint(r, s, me, 2, min(n, much)); e != api.OK {
			t.Error("another coin", n, e)
		}
	}
	s, e = Pay(r, s, me, 1, 3, much)
	if e != api.OK || s.Shelves[0].Purses[1] != [4]uint64{3: much} {
		t.Error("Pay of all", e)
	}
	s, e = Burn(r, s, api.Me{Who: 1}, 3, much)
	if held, _ := state.Held(s, 3); e != api.OK || held != 0 || !state.Right(r, s) {
		t.Error("Burn of all", e, held)
	}
	if s, e := Mint(r, s, me, 3, 1); e != api.ErrFull || !trial.Nothing(s) {
		t.Error("what was burned is not to be minted again", e)
	}
}

func TestBurn(t *testing.T) {
	m := met{}
	for _, x := range worlds() {
		for _, me := range town.Everyone(x.Realm) {
			for c := range api.Coins {
				limit := mine(x.State, me)[c]
				for _, n := range amounts(limit) {
					s, e := Burn(x.Realm, x.State, me, c, n)
					m[e]++
					want := api.OK
					if n > limit {
						want = api.ErrFunds
					}
					came(t, "Burn", x, me, s, e, want, func(s *api.State) {
						s.Shelves[me.Label].Burned[c] += n
						s.Shelves[me.Label].Purses[me.Who][c] -= n
					})
				}
			}
		}
	}
	m.all(t, api.OK, api.ErrFunds)
}

func TestBurnByHand(t *testing.T) {
	r, s := town.Realm(), town.State()
	for _, x := range []struct {
		what string
		me   api.Me
		c    int
		n    uint64
		e    api.Errno
	}{
		{"some", at(0, town.Alice), 0, 4, api.OK},
		{"all", at(0, town.Alice), 0, 10, api.OK},
		{"one more", at(0, town.Alice), 0, 11, api.ErrFunds},
		{"by who does not mint", at(0, town.Bob), 1, 20, api.OK},
		{"of a coin that one has not", at(0, town.Bob), 2, 1, api.ErrFunds},
		{"what one has at another label", at(1, town.Bob), 0, 1, api.ErrFunds},
		{"where nothing was minted", at(1, town.Bob), 1, 1, api.OK},
		{"what a trade holds", at(1, town.Alice), 3, 7, api.ErrFunds},
		{"nothing", at(0, town.Alice), 0, 0, api.ErrArg},
		{"nothing of what one has not", at(0, town.Alice), 1, 0, api.ErrArg},
		{"no coin", at(0, town.Alice), 4, 1, api.ErrArg},
	} {
		n, e := Burn(r, s, x.me, x.c, x.n)
		if e != x.e || (e != api.OK) != trial.Nothing(n) {
			t.Error(x.what, e)
		}
	}
}

func TestExample(t *testing.T) {
	x := trial.Fresh("new", town.Realm())
	r, me := x.Realm, at(0, town.Alice)
	s, e := Mint(r, x.State, me, 2, 5)
	if e != api.OK {
		t.Fatal("Mint", e)
	}
	s, e = Burn(r, s, me, 2, 2)
	if p, f := Purse(r, s, me); e != api.OK || f != api.OK || p != [4]uint64{2: 3} {
		t.Error("Burn", e, f, p)
	}
	if x := s.Shelves[0]; x.Minted != [4]uint64{2: 5} || x.Burned != [4]uint64{2: 2} {
		t.Error("made", x.Minted, x.Burned)
	}
	if n, e := Burn(r, s, me, 2, 4); e != api.ErrFunds || !trial.Nothing(n) {
		t.Error("Burn of more", e)
	}
}

// P30.2

func TestPay(t *testing.T) {
	m := met{}
	for _, x := range worlds() {
		for _, me := range town.Everyone(x.Realm) {
			for c := range api.Coins {
				limit := mine(x.State, me)[c]
				for _, n := range amounts(limit) {
					for i, who := range numbers() {
						fits := who >= 0 && who < len(x.Realm.Accounts) && who != me.Who
						// Of those that may not be a few are tried with each amount.
						if !fits && (i+int(n%7))%6 != 0 {
							continue
						}
						s, e := Pay(x.Realm, x.State, me, who, c, n)
						m[e]++
						want := api.OK
						if !fits {
							want = api.ErrArg
						} else if n > limit {
							want = api.ErrFunds
						}
						came(t, "Pay", x, me, s, e, want, func(s *api.State) {
							s.Shelves[me.Label].Purses[me.Who][c] -= n
							s.Shelves[me.Label].Purses[who][c] += n
						})
					}
				}
			}
		}
	}
	m.all(t, api.OK, api.ErrArg, api.ErrFunds)
}

func TestPayByHand(t *testing.T) {
	r, s := town.Realm(), town.State()
	for _, x := range []struct {
		what   string
		me     api.Me
		who, c int
		n      uint64
		e      api.Errno
	}{
		{"some", at(0, town.Alice), town.Bob, 0, 4, api.OK},
		{"all, to who is in another room", at(0, town.Bob), town.Carol, 1, 20, api.OK},
		{"one more", at(0, town.Bob), town.Carol, 1, 21, api.ErrFunds},
		{"to who is not cleared", at(2, town.Alice), town.Bob, 0, 100, api.OK},
		{"by who is not cleared", at(4, town.Bob), town.Alice, 0, 1, api.ErrFunds},
		{"to oneself", at(0, town.Alice), town.Alice, 0, 4, api.ErrArg},
		{"to oneself, more than one has", at(0, town.Alice), town.Alice, 0, 11, api.ErrArg},
		{"to nobody, more than one has", at(0, town.Alice), 3, 0, 11, api.ErrArg},
		{"to nobody", at(0, town.Alice), -1, 0, 1, api.ErrArg},
		{"nothing", at(0, town.Alice), town.Bob, 0, 0, api.ErrArg},
		{"no coin", at(0, town.Alice), town.Bob, 4, 1, api.ErrArg},
		{"no coin below 0", at(0, town.Alice), town.Bob, -1, 1, api.ErrArg},
		{"what one has at another label", at(1, town.Alice), town.Bob, 0, 1, api.ErrFunds},
	} {
		n, e := Pay(r, s, x.me, x.who, x.c, x.n)
		if e != x.e || (e != api.OK) != trial.Nothing(n) {
			t.Error(x.what, e)
		}
	}
	n, e := Pay(r, s, at(0, town.Alice), town.Bob, 2, 3)
	if e != api.OK || n.Shelves[0].Purses[town.Alice] != [4]uint64{10, 0, 0, 0} || n.Shelves[0].Purses[town.Bob] != [4]uint64{7, 20, 3, 0} {
		t.Error("by hand", e, n.Shelves)
	}
	// What is paid back leaves what was.
	if n, e = Pay(r, n, at(5, town.Bob), town.Alice, 2, 3); e != api.OK || !state.Same(n, s) {
		t.Error("paid back", e)
	}
}

// lifted is what Lift answers, worked out anew.
func lifted(x trial.World, me api.Me, place, who int, enough bool) api.Errno {
	switch {
	case place < 0 || place >= len(x.Realm.Labels) || who < 0 || who >= len(x.Realm.Accounts):
		return api.ErrArg
	case place == me.Label || !below(x.Realm, me.Label, place):
		return api.ErrDenied
	case !enough:
		return api.ErrFunds
	}
	return api.OK
}

func TestLift(t *testing.T) {
	m := met{}
	lift := func(x trial.World, me api.Me, place, who, c int, n uint64) {
		s, e := Lift(x.Realm, x.State, me, place, who, c, n)
		m[e]++
		came(t, "Lift", x, me, s, e, lifted(x, me, place, who, n <= mine(x.State, me)[c]), func(s *api.State) {
			s.Shelves[me.Label].Purses[me.Who][c] -= n
			s.Shelves[place].Purses[who][c] += n
		})
	}
	for i, x := range worlds() {
		for j, me := range town.Everyone(x.Realm) {
			for place := range x.Realm.Labels {
				for who := range x.Realm.Accounts {
					for c := range api.Coins {
						limit := mine(x.State, me)[c]
						for k, n := range []uint64{limit, 1, limit + 1, math.MaxUint64} {
							if n > 0 && (k == 0 || k == 1+(i+j+place+who+c)%3) {
								lift(x, me, place, who, c, n)
							}
						}
					}
				}
			}
			// Of those that may not be a few are tried by each one.
			for k, place := range numbers() {
				lift(x, me, place, numbers()[(i*3+j*5+k*8)%len(numbers())], (j+k)%api.Coins, 1)
				lift(x, me, numbers()[(i+j*8+k*2)%len(numbers())], place, (j+k)%api.Coins, 1)
			}
		}
	}
	m.all(t, api.OK, api.ErrArg, api.ErrDenied, api.ErrFunds)
}

func TestLiftByHand(t *testing.T) {
	r, s := town.Realm(), town.State()
	for _, x := range []struct {
		what          string
		me            api.Me
		place, who, c int
		n             uint64
		e             api.Errno
	}{
		{"to the hall", at(0, town.Alice), town.Hall, town.Bob, 0, 4, api.OK},
		{"to oneself", at(0, town.Alice), town.Hall, town.Alice, 0, 10, api.OK},
		{"to who is not cleared", at(0, town.Alice), town.Top, town.Carol, 0, 10, api.OK},
		{"to a label where nothing may be minted", at(0, town.Alice), town.Upper, town.Bob, 0, 4, api.OK},
		{"from the hall to the attic", at(1, town.Bob), town.Attic, town.Carol, 3, 4, api.OK},
		{"one more", at(1, town.Bob), town.Attic, town.Carol, 3, 5, api.ErrFunds},
		{"from the hall to what is beside", at(1, town.Bob), town.Club, town.Carol, 3, 4, api.ErrDenied},
		{"to a place that is greater, but not above", at(1, town.Bob), town.Upper, town.Carol, 3, 4, api.ErrDenied},
		{"down", at(1, town.Bob), town.Bottom, town.Carol, 3, 4, api.ErrDenied},
		{"down from the top", at(2, town.Alice), town.Attic, town.Alice, 0, 100, api.ErrDenied},
		{"to one's own label", at(0, town.Alice), town.Bottom, town.Bob, 0, 4, api.ErrDenied},
		{"to one's own label and purse", at(0, town.Alice), town.Bottom, town.Alice, 0, 4, api.ErrDenied},
		{"denied, ahead of what one has", at(1, town.Bob), town.Bottom, town.Carol, 3, 5, api.ErrDenied},
		{"no account, ahead of denied", at(1, town.Bob), town.Bottom, 3, 3, 4, api.ErrArg},
		{"no account", at(0, town.Alice), town.Hall, -1, 0, 4, api.ErrArg},
		{"no place", at(0, town.Alice), 6, town.Bob, 0, 4, api.ErrArg},
		{"no place, ahead of what one has", at(0, town.Alice), -1, town.Bob, 0, 11, api.ErrArg},
		{"nothing", at(0, town.Alice), town.Hall, town.Bob, 0, 0, api.ErrArg},
		{"nothing, ahead of denied", at(0, town.Alice), town.Bottom, town.Bob, 0, 0, api.ErrArg},
		{"no coin", at(0, town.Alice), town.Hall, town.Bob, 4, 1, api.ErrArg},
		{"no coin, ahead of denied", at(0, town.Alice), town.Bottom, town.Bob, -1, 1, api.ErrArg},
	} {
		n, e := Lift(r, s, x.me, x.place, x.who, x.c, x.n)
		if e != x.e || (e != api.OK) != trial.Nothing(n) {
			t.Error(x.what, e)
		}
	}
	n, e := Lift(r, s, at(0, town.Alice), town.Top, town.Alice, 2, 3)
	if e != api.OK || n.Shelves[town.Bottom].Purses[town.Alice] != [4]uint64{10, 0, 0, 0} || n.Shelves[town.Top].Purses[town.Alice] != [4]uint64{100, 0, 1<<61 + 18, 0} {
		t.Error("by hand", e, n.Shelves)
	}
}

// What is lifted may be burned where it is, so that more was burned there than minted.
func TestLiftAndBurn(t *testing.T) {
	r, s := town.Roomy(), town.Spread()
	s, e := Lift(r, s, at(0, town.Bob), town.Upper, town.Carol, 1, 20)
	if e != api.OK {
		t.Fatal("Lift", e)
	}
	s, e = Burn(r, s, at(6, town.Carol), 1, 20)
	if x := s.Shelves[town.Upper]; e != api.OK || x.Burned != [4]uint64{1, 20, 0, 0} || x.Minted[1] != 0 || !state.Right(r, s) {
		t.Error("Burn", e, x)
	}
	if n, e := Mint(r, s, at(6, town.Alice), 1, 201); e != api.ErrFull || !trial.Nothing(n) {
		t.Error("more than the cap", e)
	}
}

func TestPurse(t *testing.T) {
	for me, want := range map[api.Me][4]uint64{
		at(0, town.Alice): {10, 0, 3, 0},
		at(5, town.Alice): {10, 0, 3, 0},
		at(0, town.Bob):   {7, 20, 0, 0},
		at(0, town.Carol): {0, 0, 0, 9},
		at(1, town.Alice): {},
		at(1, town.Bob):   {0, 1, 0, 4},
		at(4, town.Alice): {1, 1, 0, 0},
		at(2, town.Alice): {100, 0, 1<<61 + 15, 0},
	} {
		if p, e := Purse(town.Realm(), town.State(), me); p != want || e != api.OK {
			t.Error(me, p, e)
		}
	}
	for _, x := range worlds() {
		for _, me := range town.Everyone(x.Realm) {
			if p, e := Purse(x.Realm, x.State, me); p != mine(x.State, me) || e != api.OK {
				t.Error(x.Name, me, p, e)
			}
		}
	}
}

// P30.3 and P30.4, and errors

// deeds are things that are done with coins, and asked of them.
func deeds() []trial.Deed {
	var out []trial.Deed
	add := func(what string, f func(r api.Realm, s api.State, me api.Me) (api.State, api.Errno)) {
		out = append(out, trial.Deed{What: what, Do: func(r api.Realm, s api.State, me api.Me) (api.State, []int, api.Errno) {
			n, e := f(r, s, me)
			return n, nil, e
		}})
	}
	for i, n := range []uint64{0, 1, 3, 10, 50, 471, 971, much, math.MaxUint64} {
		for c := -1 + i%2; c <= api.Coins; c += 2 {
			add("Mint", func(r api.Realm, s api.State, me api.Me) (api.State, api.Errno) { return Mint(r, s, me, c, n) })
			add("Burn", func(r api.Realm, s api.State, me api.Me) (api.State, api.Errno) { return Burn(r, s, me, c, n) })
			for who := -1 + i%2; who <= 3; who += 2 {
				add("Pay", func(r api.Realm, s api.State, me api.Me) (api.State, api.Errno) { return Pay(r, s, me, who, c, n) })
				place := (i+c+who+6)%8 - 1
				add("Lift", func(r api.Realm, s api.State, me api.Me) (api.State, api.Errno) {
					return Lift(r, s, me, place, who, c, n)
				})
			}
		}
	}
	return append(out, trial.Deed{What: "Purse", Do: func(r api.Realm, s api.State, me api.Me) (api.State, []int, api.Errno) {
		p, e := Purse(r, s, me)
		if e != api.OK && p == (purse{}) {
			return api.State{}, nil, e
		}
		return api.State{}, []int{int(p[0]), int(p[1]), int(p[2]), int(p[3])}, e
	}})
}

func TestRefused(t *testing.T) {
	for _, fault := range trial.Refused(deeds()) {
		t.Error(fault)
	}
}

func TestNothingIsSeenFromElsewhere(t *testing.T) {
	for _, x := range append(worlds()[:4], rich(), sole()) {
		for _, fault := range trial.Wrong(deeds(), x) {
			t.Error(fault)
		}
	}
}

func TestAlike(t *testing.T) {
	for _, fault := range trial.Unlike(deeds(), trial.World{Name: "roomy", Realm: town.Roomy(), State: town.Spread()}) {
		t.Error(fault)
	}
}

func TestApart(t *testing.T) {
	x := trial.World{Name: "town", Realm: town.Realm(), State: town.State()}
	for _, fault := range append(trial.Shared(deeds(), x), trial.Behind(deeds())...) {
		t.Error(fault)
	}
}

// sums is what is held, and what was made, of all coins.
func sums(t *testing.T, s api.State) (held, made [api.Coins]uint64) {
	t.Helper()
	for c := range api.Coins {
		var e, f api.Errno
		held[c], e = state.Held(s, c)
		made[c], f = state.Made(s, c)
		if e != api.OK || f != api.OK {
			t.Error("no sum", c, e, f)
		}
	}
	return held, made
}

func TestWhatIsHeldWasMade(t *testing.T) {
	r, s := town.Roomy(), town.Spread()
	everyone, dice := town.Everyone(r), uint32(3)
	roll := func(n int) int {
		dice = dice*1664525 + 1013904223
		return int(dice>>8) % n
	}
	done := map[string]int{}
	for range 3000 {
		me, c, who, place := everyone[roll(len(everyone))], roll(api.Coins), roll(3), roll(6)
		n := uint64(1 + roll(1<<roll(8)))
		var next api.State
		var e api.Errno
		more := uint64(0)
		what := []string{"Mint", "Burn", "Pay", "Lift"}[roll(4)]
		switch what {
		case "Mint":
			more = n
			next, e = Mint(r, s, me, c, n)
		case "Burn":
			more = -n
			next, e = Burn(r, s, me, c, n)
		case "Pay":
			next, e = Pay(r, s, me, who, c, n)
		case "Lift":
			next, e = Lift(r, s, me, place, who, c, n)
		}
		if e != api.OK {
			continue
		}
		done[what]++
		held, made := sums(t, s)
		held[c] += more
		made[c] += more
		nowHeld, nowMade := sums(t, next)
		if !state.Right(r, next) || nowHeld != held || nowMade != made || held != made {
			t.Fatal(what, me, c, n, held, made, nowHeld, nowMade)
		}
		s = next
	}
	for _, what := range []string{"Mint", "Burn", "Pay", "Lift"} {
		if done[what] < 20 {
			t.Error("hardly ever", what, done)
		}
	}
}
