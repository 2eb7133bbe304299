package town_test

import (
	"testing"

	"rialto/api"
	"rialto/realm"
	"rialto/state"
	"rialto/town"
	"rialto/view"
)

// towns are realms of the town, each with a state of it.
func towns() map[string]struct {
	r api.Realm
	s api.State
} {
	return map[string]struct {
		r api.Realm
		s api.State
	}{"town": {town.Realm(), town.State()}, "roomy": {town.Roomy(), town.Spread()}}
}

func TestTowns(t *testing.T) {
	for name, x := range towns() {
		if !realm.Right(x.r) || !state.Right(x.r, x.s) {
			t.Error(name, "may not be")
		}
		for i, s := range town.Faulty(x.s) {
			if state.Right(x.r, s) {
				t.Error(name, "faulty, and may be", i)
			}
		}
		if !state.Right(x.r, x.s) {
			t.Error(name, "is changed by what is made of it")
		}
		for _, me := range town.Everyone(x.r) {
			if !state.IsMe(x.r, x.s, me) {
				t.Error(name, "may act", me)
			}
		}
		for _, me := range town.Nobody(x.r) {
			if state.IsMe(x.r, x.s, me) {
				t.Error(name, "may not act", me)
			}
		}
	}
}

func TestHidden(t *testing.T) {
	for name, x := range towns() {
		for _, from := range town.Sights() {
			for _, full := range []bool{false, true} {
				s := town.Hidden(x.r, x.s, from, full)
				if !state.Right(x.r, s) || !view.Same(x.r, s, x.s, from) {
					t.Error(name, "is not hidden", from, full)
				}
				for _, other := range town.Sights() {
					hides := false
					for _, a := range x.r.Labels {
						hides = hides || sees(a, other) && !sees(a, from)
					}
					if hides && view.Same(x.r, s, x.s, other) {
						t.Error(name, "is the same", from, full, other)
					}
				}
			}
		}
	}
}

// sees tells whether a label is at or below another one.
func sees(a, b api.Label) bool { return a.Level <= b.Level && a.Comps&^b.Comps == 0 }

func TestSpoil(t *testing.T) {
	s := town.Spread()
	kept := state.Clone(s)
	town.Spoil(&s)
	if state.Same(s, kept) || !state.Same(kept, town.Spread()) {
		t.Error("not spoilt")
	}
}
