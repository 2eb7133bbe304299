package post

import (
	"math"
	"slices"
	"strings"
	"testing"

	"rialto/api"
)

// letter is a slot with a letter.
func letter(place, from, to int, text string) api.Mail {
	return api.Mail{Used: true, Label: place, From: from, To: to, Text: text}
}

// good are texts; bad are some that may not be.
func good() []string {
	return []string{"a", "Z", "0", "!", "~", "come at noon", "a  b", "-", "Hello, you!", strings.Repeat("x", 40), "a" + strings.Repeat(" ", 38) + "~"}
}

func bad() []string {
	return []string{"", " ", " a", "a ", "  ", strings.Repeat("x", 41), strings.Repeat("x", 70000), "a\n", "\x00", "a\x1fb", "a\x7fb", "\x7f", "\x80", "é", "aéb", "\xff", "a\tb", strings.Repeat(" ", 40)}
}

// numbers are such as there may be; others may not be.
func numbers() []int { return []int{0, 1, 2, 7, 8, 64, 126, 127} }

func others() []int {
	return []int{math.MinInt, math.MinInt32, -256, -128, -127, -1, 128, 129, 255, 256, 1 << 32, math.MaxInt}
}

// misnumbered are letters of which one number may not be, or all.
func misnumbered(text string) []api.Mail {
	var out []api.Mail
	for _, n := range others() {
		out = append(out, letter(n, 0, 0, text), letter(0, n, 0, text), letter(0, 0, n, text), letter(n, n, n, text), letter(127, 127, n, text))
	}
	return out
}

// wrongMails are slots that may not be.
func wrongMails() []api.Mail {
	out := []api.Mail{
		{Text: "a"}, {Text: " "}, {Label: 1}, {From: 1}, {To: 1}, {Label: -1}, {From: -1}, {To: -1}, {Label: 128},
		{Label: 1, From: 2, To: 3, Text: "a"}, {Used: true}, {Used: true, Label: 1, From: 2, To: 3},
	}
	for _, s := range bad() {
		out = append(out, letter(0, 0, 0, s), letter(1, 2, 3, s))
	}
	return append(out, misnumbered("a")...)
}

// wrongLists are lists that may not be, with free slots, and with letters that may be.
func wrongLists() [][]api.Mail {
	var out [][]api.Mail
	for _, x := range wrongMails() {
		out = append(out, []api.Mail{x, {}}, []api.Mail{{}, x}, []api.Mail{letter(0, 0, 0, "a"), {}, x, {}, letter(0, 0, 1, "a")})
	}
	return out
}

// lists are lists of up to three slots, with some few letters, that may be.
func lists() [][]api.Mail {
	some := []api.Mail{{}, letter(0, 0, 0, "a"), letter(0, 0, 1, "a"), letter(0, 1, 0, "b"), letter(1, 0, 0, "c"), letter(1, 1, 1, "d"), letter(127, 127, 127, "e")}
	out := [][]api.Mail{nil, {}}
	for _, a := range some {
		out = append(out, []api.Mail{a})
		for _, b := range some {
			out = append(out, []api.Mail{a, b})
			// Two letters may be the same.
			for _, c := range some {
				out = append(out, []api.Mail{a, b, c})
			}
		}
	}
	return out
}

// with is a list in which another letter stands at a slot.
func with(l []api.Mail, i int, m api.Mail) []api.Mail {
	out := slices.Clone(l)
	out[i] = m
	return out
}

// addressed are the slots of the letters to an account, one by one.
func addressed(l []api.Mail, to int) []int {
	var out []int
	for i := range l {
		if l[i].Used && l[i].To == to {
			out = append(out, i)
		}
	}
	return out
}

// slotsAsked are slots that are there, and ones that are not.
func slotsAsked() []int { return []int{math.MinInt, -128, -1, 0, 1, 2, 3, 4, 127, math.MaxInt} }

// P17.1

func TestRight(t *testing.T) {
	for _, l := range append(lists(), make([]api.Mail, 5000)) {
		if !Right(l) {
			t.Error("may be", l)
		}
	}
	for _, s := range good() {
		for _, n := range numbers() {
			for _, m := range numbers() {
				if l := []api.Mail{{}, letter(n, m, 0, s), letter(0, n, m, s), letter(m, 0, n, s)}; !Right(l) {
					t.Error("may be", l)
				}
			}
		}
	}
	for _, x := range wrongMails() {
		if Right([]api.Mail{x}) {
			t.Error("may not be", x.Used, x.Label, x.From, x.To, len(x.Text))
		}
	}
	for _, l := range wrongLists() {
		if Right(l) {
			t.Error("may not be", len(l))
		}
	}
}

// Each byte counts as chapter 3 says, at an end of the text, and within it.
func TestBytes(t *testing.T) {
	for n := range 256 {
		c := string([]byte{byte(n)})
		may := n >= 32 && n <= 126
		if Right([]api.Mail{letter(0, 0, 0, "a"+c+"b")}) != may {
			t.Error("within", n)
		}
		for _, s := range []string{c, c + "a", "a" + c} {
			if Right([]api.Mail{letter(0, 0, 0, s)}) != (may && n != 32) {
				t.Error("at an end", n)
			}
		}
	}
}

func TestExample(t *testing.T) {
	l, i, e := Put([]api.Mail{{}}, letter(0, 0, 1, "hello"))
	if !slices.Equal(l, []api.Mail{letter(0, 0, 1, "hello")}) || i != 0 || e != api.OK {
		t.Error("Put", l, i, e)
	}
	if got, e := Toss(l, 0, 0); len(got) != 0 || e != api.ErrNone {
		t.Error("Toss of what is for another one", got, e)
	}
	if got, e := Toss(l, 0, 1); !slices.Equal(got, []api.Mail{{}}) || e != api.OK {
		t.Error("Toss", got, e)
	}
}

func TestPut(t *testing.T) {
	for _, l := range lists() {
		was := slices.Clone(l)
		free := slices.Index(l, api.Mail{})
		for _, s := range good() {
			for _, m := range []api.Mail{letter(0, 0, 0, s), letter(0, 127, 1, s), letter(127, 0, 2, s), letter(1, 2, 127, s), letter(127, 127, 127, s)} {
				for _, used := range []bool{true, false} {
					handed := m
					// Used or not, it is put as one that is.
					handed.Used = used
					got, i, e := Put(l, handed)
					if free < 0 {
						if len(got) != 0 || i != 0 || e != api.ErrFull {
							t.Error("full", l, got, i, e)
						}
						continue
					}
					if !slices.Equal(got, with(was, free, m)) || i != free || e != api.OK {
						t.Error(l, handed, got, i, e)
					}
				}
			}
		}
		if !slices.Equal(l, was) {
			t.Error("changed", was, l)
		}
	}
}

// refused holds what Put answers against an error, with nothing beside it, of a letter that is Used, and of one that is not.
func refused(t *testing.T, l []api.Mail, m api.Mail, want api.Errno) {
	t.Helper()
	for _, used := range []bool{true, false} {
		m.Used = used
		if got, i, e := Put(l, m); len(got) != 0 || i != 0 || e != want {
			t.Error(len(l), m.Label, m.From, m.To, len(m.Text), "is", got, i, e, "and not", want)
		}
	}
}

func TestWrongPut(t *testing.T) {
	for _, l := range lists() {
		for _, s := range bad() {
			// Ahead of a list that is full.
			refused(t, l, letter(0, 0, 0, s), api.ErrForm)
			refused(t, l, letter(127, 127, 127, s), api.ErrForm)
		}
		// Ahead of a text that is none, and of a list that is full.
		for _, s := range []string{"a", "", " a"} {
			for _, m := range misnumbered(s) {
				refused(t, l, m, api.ErrArg)
			}
		}
	}
	for _, l := range wrongLists() {
		for _, m := range []api.Mail{letter(0, 0, 0, "a"), letter(0, 0, 0, ""), letter(-1, 0, 0, "a"), {}} {
			refused(t, l, m, api.ErrArg)
		}
	}
	for _, x := range wrongMails() {
		// Ahead of a list that is full.
		refused(t, []api.Mail{x}, letter(0, 0, 0, ""), api.ErrArg)
	}
}

func TestPutAtEdges(t *testing.T) {
	for _, n := range numbers() {
		for _, m := range numbers() {
			for _, x := range []api.Mail{letter(n, m, 0, "a"), letter(0, n, m, "a"), letter(m, 0, n, "a"), letter(n, n, m, "a")} {
				got, i, e := Put(make([]api.Mail, 2), x)
				if !slices.Equal(got, []api.Mail{x, {}}) || i != 0 || e != api.OK {
					t.Error(x, got, i, e)
				}
			}
		}
	}
}

func TestToss(t *testing.T) {
	for _, l := range lists() {
		was := slices.Clone(l)
		for _, i := range slotsAsked() {
			for _, to := range append(numbers(), others()...) {
				got, e := Toss(l, i, to)
				if !slices.Contains(addressed(was, to), i) {
					if len(got) != 0 || e != api.ErrNone {
						t.Error("none", l, i, to, got, e)
					}
					continue
				}
				if !slices.Equal(got, with(was, i, api.Mail{})) || e != api.OK {
					t.Error(l, i, to, got, e)
				}
			}
		}
		if !slices.Equal(l, was) {
			t.Error("changed", was, l)
		}
	}
	for _, l := range wrongLists() {
		for i := -1; i <= len(l); i++ {
			// Also of a letter that may be, beside one that may not.
			for _, to := range []int{-1, 0, 1, 3, 127, 128} {
				if got, e := Toss(l, i, to); len(got) != 0 || e != api.ErrArg {
					t.Error("may not be", len(l), i, to, got, e)
				}
			}
		}
	}
}

// P17.2

func TestGetAndOf(t *testing.T) {
	for _, l := range append(lists(), wrongLists()...) {
		was := slices.Clone(l)
		for _, to := range append(numbers(), others()...) {
			want := addressed(was, to)
			if got := Of(l, to); !slices.Equal(got, want) {
				t.Error("Of", len(l), to, got, want)
			}
			for _, i := range slotsAsked() {
				m, e := Get(l, i, to)
				if !slices.Contains(want, i) {
					if m != (api.Mail{}) || e != api.ErrNone {
						t.Error("none", len(l), i, to, m, e)
					}
					continue
				}
				if m != was[i] || e != api.OK {
					t.Error("Get", len(l), i, to, m, e)
				}
			}
		}
		if !slices.Equal(l, was) {
			t.Error("changed", len(l))
		}
	}
}

// Of any list, as it stands: it counts to whom a letter is, not whether there may be one.
func TestGetAndOfWritten(t *testing.T) {
	l := []api.Mail{
		letter(0, 1, 3, "one"), letter(0, 3, 1, "two"), letter(3, 1, 2, "three"), {}, {Label: 1, From: 2, To: 3, Text: "not used"},
		letter(5, 6, 3, ""), letter(-1, 500, 3, " x"), letter(0, 0, -9, "five"), letter(0, 0, 3, strings.Repeat("x", 99)), letter(0, 0, math.MaxInt, "six"), {To: 3},
	}
	for _, x := range []struct {
		to   int
		want []int
	}{{3, []int{0, 5, 6, 8}}, {1, []int{1}}, {2, []int{2}}, {-9, []int{7}}, {math.MaxInt, []int{9}}, {0, nil}, {500, nil}, {math.MinInt, nil}} {
		if got := Of(l, x.to); !slices.Equal(got, x.want) {
			t.Error("Of", x.to, got)
		}
	}
	for _, x := range []struct {
		i, to int
		want  api.Mail
	}{{0, 3, letter(0, 1, 3, "one")}, {5, 3, letter(5, 6, 3, "")}, {6, 3, letter(-1, 500, 3, " x")}, {7, -9, letter(0, 0, -9, "five")}, {9, math.MaxInt, letter(0, 0, math.MaxInt, "six")}} {
		if m, e := Get(l, x.i, x.to); m != x.want || e != api.OK {
			t.Error("Get", x.i, x.to, m, e)
		}
	}
	for _, x := range [][2]int{{0, 1}, {1, 3}, {2, 3}, {3, 0}, {4, 3}, {10, 3}, {11, 3}, {-1, 3}, {5, 5}, {5, 6}, {7, 0}} {
		if m, e := Get(l, x[0], x[1]); m != (api.Mail{}) || e != api.ErrNone {
			t.Error("none", x, m, e)
		}
	}
	if len(Of(nil, 0)) != 0 || len(Of([]api.Mail{}, 0)) != 0 || len(Of(make([]api.Mail, 9), 0)) != 0 {
		t.Error("of no letters")
	}
}

// answers are lists that come of one with a letter to 0 at 0, and with a free slot at 2.
func answers(l []api.Mail) [][]api.Mail {
	put, _, _ := Put(l, letter(1, 1, 1, "new"))
	tossed, _ := Toss(l, 0, 0)
	return [][]api.Mail{put, tossed}
}

func TestNewMemory(t *testing.T) {
	l := []api.Mail{letter(0, 0, 0, "a"), letter(0, 0, 1, "b"), {}}
	was := slices.Clone(l)
	for i, got := range answers(l) {
		if len(got) != 3 {
			t.Fatal(i, got)
		}
		for k := range got {
			got[k] = letter(9, 9, 9, "spoilt")
		}
		_ = append(got, letter(9, 9, 9, "spoilt"))
		if !slices.Equal(l, was) {
			t.Fatal("what was handed in has memory in common", i, l)
		}
	}
	Of(l, 0)[0] = 7
	if !slices.Equal(Of(l, 0), []int{0}) {
		t.Error("slots have memory in common")
	}
	all := answers(l)
	clear(l)
	if !slices.Equal(all[0], with(was, 2, letter(1, 1, 1, "new"))) || !slices.Equal(all[1], with(was, 0, api.Mail{})) {
		t.Error("what was handed in is kept", all)
	}
}

func TestBehindTheEnd(t *testing.T) {
	a, wrong := letter(0, 0, 0, "a"), letter(-1, 0, 0, "")
	l := []api.Mail{a, a, {}, wrong, a}
	if !Right(l[:3]) {
		t.Error("Right behind the end")
	}
	if _, _, e := Put(l[:2], a); e != api.ErrFull {
		t.Error("a slot behind the end is free", e)
	}
	if !slices.Equal(Of(l[:3], 0), []int{0, 1}) || len(Of(l[:1], 0)) != 1 {
		t.Error("Of behind the end")
	}
	if m, e := Get(l[:1], 1, 0); m != (api.Mail{}) || e != api.ErrNone {
		t.Error("Get behind the end", m, e)
	}
	if _, e := Toss(l[:1], 1, 0); e != api.ErrNone {
		t.Error("Toss behind the end", e)
	}
	put, _, e := Put(l[:3], letter(1, 1, 1, "b"))
	tossed, f := Toss(l[:3], 1, 0)
	if e != api.OK || f != api.OK || !slices.Equal(put, []api.Mail{a, a, letter(1, 1, 1, "b")}) || !slices.Equal(tossed, []api.Mail{a, {}, {}}) {
		t.Error("what lies behind is read", put, e, tossed, f)
	}
	for _, got := range [][]api.Mail{put, tossed} {
		_ = append(got, letter(9, 9, 9, "spoilt"))
		if slices.Contains(got[:cap(got)], wrong) || l[3] != wrong || l[4] != a {
			t.Error("what lies behind is written or handed out", l)
		}
	}
}

// P17.3

// step is what one may do: put a letter, or toss one.
type step struct {
	put   bool
	m     api.Mail
	i, to int
}

func steps(most int) []step {
	var out []step
	for to := range 3 {
		out = append(out, step{put: true, m: letter(to, 1, to, "a")}, step{put: true, m: letter(0, 2-to, to, "b")})
		for i := range most {
			out = append(out, step{i: i, to: to})
		}
	}
	return out
}

// holds tells whether a list that came of a step has all that there was, but what the step itself put or tossed.
func holds(t *testing.T, was, now []api.Mail, x step, slot int) {
	t.Helper()
	for i := range was {
		if i != slot && now[i] != was[i] {
			t.Fatal("not there till it is tossed", was, now, x)
		}
	}
	if x.put && (was[slot].Used || now[slot] != x.m) || !x.put && (was[slot].To != x.to || !was[slot].Used || now[slot].Used) {
		t.Fatal("what was put, or tossed", was, now, x)
	}
}

func TestWhatComesOfIt(t *testing.T) {
	const most = 3
	all := [][]api.Mail{make([]api.Mail, most)}
	known := map[[most]api.Mail]int{[most]api.Mail(all[0]): 1}
	for n := 0; n < len(all); n++ {
		was := all[n]
		for _, x := range steps(most) {
			slot := x.i
			var now []api.Mail
			var e api.Errno
			if x.put {
				now, slot, e = Put(was, x.m)
			} else {
				now, e = Toss(was, x.i, x.to)
			}
			if e != api.OK {
				continue
			}
			if !Right(now) || len(now) != most {
				t.Fatal("may not be", now)
			}
			holds(t, was, now, x, slot)
			if known[[most]api.Mail(now)]++; known[[most]api.Mail(now)] == 1 {
				all = append(all, now)
			}
		}
	}
	// Each slot is free, or has one of six letters: all of it is come to.
	if len(all) != 7*7*7 {
		t.Error(len(all))
	}
}
