package quota

import (
	"math"
	"slices"
	"testing"

	"rialto/api"
)

// some tells that a number is not 0.
func some(n int) bool { return n != 0 }

// far are numbers that are slots of no row.
func far(n int) []int { return []int{math.MinInt, -n, -1, n, n + 1, math.MaxInt} }

// rows has lists of many kinds.
func rows() [][]int {
	out := [][]int{nil, {}, {0}, {5}, {0, 0}, {5, 0, 7}, {5, 6, 7}, {0, 5, 0}, {9, 0, 0, 9}}
	for set := range 64 {
		var l []int
		for i := range 6 {
			l = append(l, set>>i&1*(i+10))
		}
		out = append(out, l)
	}
	return append(out, make([]int, 5000))
}

// P6.1

func TestOf(t *testing.T) {
	if w := Of([]int{1}, nil); w != nil {
		t.Error("no function", w)
	}
	if w := Of[int](nil, nil); w != nil {
		t.Error("nothing", w)
	}
	for _, l := range rows() {
		if Of(l, some) == nil {
			t.Error("no row", l)
		}
	}
}

func TestExample(t *testing.T) {
	w := Of([]int{5, 0, 7}, some)
	if i, e := w.First(); i != 1 || e != api.OK {
		t.Error("First", i, e)
	}
	if !slices.Equal(w.Slots(), []int{0, 2}) || w.Count() != 2 {
		t.Error("Slots", w.Slots(), w.Count())
	}
	if !w.Has(0) || w.Has(1) || !w.Has(2) {
		t.Error("Has")
	}
}

func TestAsked(t *testing.T) {
	for _, l := range rows() {
		w := Of(l, some)
		free, there := -1, []int(nil)
		for i, n := range l {
			if n != 0 {
				there = append(there, i)
			} else if free < 0 {
				free = i
			}
			if w.Has(i) != (n != 0) {
				t.Error("Has", l, i)
			}
		}
		if !slices.Equal(w.Slots(), there) || w.Count() != len(there) {
			t.Error("Slots", l, w.Slots(), w.Count())
		}
		i, e := w.First()
		if free >= 0 && (i != free || e != api.OK) || free < 0 && (i != 0 || e != api.ErrFull) {
			t.Error("First", l, i, e)
		}
		for _, i := range far(len(l)) {
			if w.Has(i) {
				t.Error("Has, of no slot", l, i)
			}
		}
	}
}

func TestFunctionTells(t *testing.T) {
	l := []int{5, 0, 7}
	all := Of(l, func(int) bool { return true })
	if i, e := all.First(); i != 0 || e != api.ErrFull || all.Count() != 3 || all.Has(3) || all.Has(-1) {
		t.Error("all", i, e)
	}
	none := Of(l, func(int) bool { return false })
	if i, e := none.First(); i != 0 || e != api.OK || none.Count() != 0 || len(none.Slots()) != 0 || none.Has(0) {
		t.Error("none", i, e)
	}
	large := Of(l, func(n int) bool { return n > 5 })
	if i, e := large.First(); i != 0 || e != api.OK || !slices.Equal(large.Slots(), []int{2}) {
		t.Error("large ones", i, e)
	}
}

// P6.2

func TestPut(t *testing.T) {
	for _, l := range rows() {
		w := Of(l, some)
		for i := range min(len(l), 20) {
			for _, x := range []int{0, 1, -3} {
				want := slices.Clone(l)
				want[i] = x
				if got, e := w.Put(i, x); !slices.Equal(got, want) || e != api.OK {
					t.Error(l, i, x, got, e)
				}
			}
		}
		for _, i := range far(len(l)) {
			if got, e := w.Put(i, 1); len(got) != 0 || e != api.ErrArg {
				t.Error("no slot", l, i, got, e)
			}
		}
	}
}

func TestAdd(t *testing.T) {
	for _, l := range rows() {
		w := Of(l, some)
		first, e := w.First()
		got, i, f := w.Add(3)
		if e != f || i != first {
			t.Error("not the lowest free slot", l, i, f)
		}
		if e != api.OK {
			if len(got) != 0 || i != 0 || f != api.ErrFull {
				t.Error("full", l, got, i, f)
			}
			continue
		}
		want := slices.Clone(l)
		want[first] = 3
		if !slices.Equal(got, want) {
			t.Error(l, got)
		}
	}
}

func TestAddWhatIsNotThere(t *testing.T) {
	got, i, e := Of([]int{5, 0, 7, 0}, some).Add(0)
	if !slices.Equal(got, []int{5, 0, 7, 0}) || i != 1 || e != api.OK {
		t.Error(got, i, e)
	}
}

func TestRowStays(t *testing.T) {
	for _, l := range rows() {
		was := slices.Clone(l)
		w := Of(l, some)
		there, n := w.Slots(), w.Count()
		if got, e := w.Put(0, 99); e == api.OK {
			got[len(got)-1] = 98
		}
		if got, _, e := w.Add(97); e == api.OK {
			got[0] = 96
		}
		if s := w.Slots(); len(s) > 0 {
			s[0] = 95
		}
		if !slices.Equal(l, was) || !slices.Equal(w.Slots(), there) || w.Count() != n {
			t.Error(l, was, w.Slots())
		}
		if got, e := w.Put(0, 1); e == api.OK && !slices.Equal(got[1:], was[1:]) {
			t.Error("changed by what was handed out", got)
		}
	}
}

func TestListIsNotKept(t *testing.T) {
	l := []int{5, 0, 7}
	w := Of(l, some)
	l[0], l[1] = 0, 9
	if i, e := w.First(); i != 1 || e != api.OK || !slices.Equal(w.Slots(), []int{0, 2}) {
		t.Error(i, e)
	}
}

func TestBehindTheEnd(t *testing.T) {
	all := []int{5, 6, 0, 8}
	w := Of(all[:2], some)
	if _, e := w.First(); e != api.ErrFull || w.Has(3) || w.Count() != 2 {
		t.Error("what lies behind is read", e)
	}
	got, e := w.Put(1, 9)
	if len(got) != 2 || e != api.OK {
		t.Error(got, e)
	}
	_ = append(got, 99)
	if !slices.Equal(all, []int{5, 6, 0, 8}) {
		t.Error("what lies behind is written", all)
	}
	if behind := got[:cap(got)]; slices.Contains(behind, 8) {
		t.Error("what lies behind is handed out", behind)
	}
}

func TestNoRow(t *testing.T) {
	for _, w := range []*Row[int]{nil, {}, new(Row[int]), Of([]int{1, 0}, nil)} {
		if i, e := w.First(); i != 0 || e != api.ErrNil {
			t.Error("First", i, e)
		}
		for _, i := range []int{math.MinInt, -1, 0, 1, math.MaxInt} {
			if w.Has(i) {
				t.Error("Has", i)
			}
			if l, e := w.Put(i, 1); len(l) != 0 || e != api.ErrNil {
				t.Error("Put", l, e)
			}
		}
		if l := w.Slots(); len(l) != 0 || w.Count() != 0 {
			t.Error("Slots", l)
		}
		if l, i, e := w.Add(1); len(l) != 0 || i != 0 || e != api.ErrNil {
			t.Error("Add", l, i, e)
		}
	}
}

// P6.3

func TestFilled(t *testing.T) {
	for _, l := range rows() {
		if len(l) > 100 {
			continue
		}
		w := Of(l, some)
		for n := w.Count(); n < len(l); n++ {
			first, _ := w.First()
			got, i, e := w.Add(n + 1)
			if e != api.OK || i != first || len(got) != len(l) {
				t.Fatal(l, got, i, e)
			}
			was := w
			w = Of(got, some)
			if !w.Has(i) || was.Has(i) || w.Count() != n+1 || got[i] != n+1 {
				t.Error(l, got, i)
			}
		}
		if got, i, e := w.Add(1); len(got) != 0 || i != 0 || e != api.ErrFull {
			t.Error("full", l, got, i, e)
		}
	}
}

func TestFreedSlotIsTakenAgain(t *testing.T) {
	l, e := Of([]int{1, 2, 3}, some).Put(1, 0)
	if e != api.OK {
		t.Fatal(e)
	}
	got, i, e := Of(l, some).Add(9)
	if !slices.Equal(got, []int{1, 9, 3}) || i != 1 || e != api.OK {
		t.Error(got, i, e)
	}
}

// Rows are of any type.
func TestOtherTypes(t *testing.T) {
	rooms := Of([]api.Room{{Used: true, Name: "plaza"}, {}}, func(x api.Room) bool { return x.Used })
	l, i, e := rooms.Add(api.Room{Used: true, Name: "yard"})
	if i != 1 || e != api.OK || l[0].Name != "plaza" || l[1].Name != "yard" || rooms.Count() != 1 {
		t.Error(l, i, e)
	}
	maybe := Of([]*int{nil, new(int)}, func(x *int) bool { return x != nil })
	if i, e := maybe.First(); i != 0 || e != api.OK || !slices.Equal(maybe.Slots(), []int{1}) {
		t.Error(i, e)
	}
	functions := Of([]func(){nil, func() {}}, func(f func()) bool { return f == nil })
	if i, e := functions.First(); i != 1 || e != api.OK {
		t.Error(i, e)
	}
}
