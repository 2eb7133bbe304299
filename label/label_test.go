package label

import (
	"bytes"
	"math"
	"slices"
	"strings"
	"testing"

	"rialto/api"
)

// all has every compartment.
const all = math.MaxUint64

// at is the label of a level and some compartments.
func at(level int, bits ...int) api.Label {
	a := api.Label{Level: level}
	for _, bit := range bits {
		a.Comps |= 1 << bit
	}
	return a
}

// sample has labels that may be and labels that may not, of many levels and sets.
func sample() []api.Label {
	var out []api.Label
	for _, level := range []int{math.MinInt, -256, -1, 0, 1, 2, 3, 4, 255, 256, math.MaxInt} {
		for _, comps := range []uint64{0, 1, 2, 3, 33, 1 << 31, 1 << 32, 1 << 63, 1<<63 | 1, 1<<63 - 1, all} {
			out = append(out, api.Label{Level: level, Comps: comps})
		}
	}
	return out
}

// P1.1

func TestRight(t *testing.T) {
	for _, a := range sample() {
		if want := slices.Contains([]int{0, 1, 2, 3}, a.Level); Right(a) != want {
			t.Error(a, !want)
		}
	}
}

func TestLeq(t *testing.T) {
	for _, x := range []struct {
		a, b api.Label
		want bool
	}{
		{at(1, 0), at(2, 0, 5), true},
		{at(1, 0), at(2, 5), false},
		{at(2, 0, 5), at(1, 0), false},
		{at(1, 0), at(1, 0), true},
		{at(2), at(1, 0, 1), false},
		{at(1, 63), at(1, 62, 63), true},
		{at(1, 63), at(3), false},
		{at(0), at(0, 0), true},
		{at(0, 0), at(0), false},
		{at(0, 1), at(3, 2), false},
		{at(-1, 0), at(0, 0), true},
		{at(4), at(3), false},
		{at(math.MinInt), at(math.MaxInt), true},
		{at(math.MaxInt), at(math.MinInt), false},
	} {
		if Leq(x.a, x.b) != x.want {
			t.Error(x)
		}
	}
}

func TestJoinMeet(t *testing.T) {
	for _, x := range []struct{ a, b, join, meet api.Label }{
		{at(1, 0), at(2, 0, 5), at(2, 0, 5), at(1, 0)},
		{at(3, 1), at(0, 2), at(3, 1, 2), at(0)},
		{at(2, 0, 63), at(2, 63, 7), at(2, 0, 7, 63), at(2, 63)},
		{at(0), at(0), at(0), at(0)},
		{at(-7, 1), at(9, 2), at(9, 1, 2), at(-7)},
		{at(math.MinInt), at(math.MaxInt, 3), at(math.MaxInt, 3), at(math.MinInt)},
	} {
		if c := Join(x.a, x.b); c != x.join {
			t.Error("Join", x, c)
		}
		if c := Meet(x.a, x.b); c != x.meet {
			t.Error("Meet", x, c)
		}
	}
}

func TestCmp(t *testing.T) {
	row := []api.Label{at(math.MinInt, 9), at(-1, 63), at(0), at(0, 0), at(0, 1), at(0, 0, 1), at(0, 63), {Comps: all}, at(1), at(1, 5), at(3, 0), at(4), at(math.MaxInt)}
	for i, a := range row {
		for j, b := range row {
			want := 0
			if i < j {
				want = -1
			} else if i > j {
				want = 1
			}
			if c := Cmp(a, b); c != want {
				t.Error(a, b, c)
			}
		}
	}
}

// P1.2

func TestHall(t *testing.T) {
	for bit := range 64 {
		if a, e := Hall(bit); a != at(0, bit) || e != api.OK {
			t.Error(bit, a, e)
		}
	}
	for _, bit := range []int{math.MinInt, -64, -1, 64, 65, 128, math.MaxInt} {
		if a, e := Hall(bit); a != (api.Label{}) || e != api.ErrArg {
			t.Error(bit, a, e)
		}
	}
}

func TestBits(t *testing.T) {
	for _, want := range [][]int{nil, {0}, {63}, {0, 63}, {1, 2, 31, 32, 62}} {
		for _, level := range []int{-1, 0, 3, 4} {
			if got := Bits(at(level, want...)); !slices.Equal(got, want) {
				t.Error(level, want, got)
			}
		}
	}
	got := Bits(api.Label{Comps: all})
	if len(got) != 64 {
		t.Fatal(got)
	}
	for i, bit := range got {
		if bit != i {
			t.Error(i, bit)
		}
	}
}

// P1.3

func TestBytes(t *testing.T) {
	a := api.Label{Level: 2, Comps: 0x0102030405060708}
	if b := Bytes(a); !bytes.Equal(b, []byte{2, 1, 2, 3, 4, 5, 6, 7, 8}) {
		t.Error(b)
	}
	if b := Bytes(at(3, 63)); !bytes.Equal(b, []byte{3, 128, 0, 0, 0, 0, 0, 0, 0}) {
		t.Error(b)
	}
	if b := Bytes(api.Label{}); !bytes.Equal(b, make([]byte, 9)) {
		t.Error(b)
	}
	for _, a := range sample() {
		if b := Bytes(a); !Right(a) && len(b) != 0 {
			t.Error(a, b)
		}
	}
}

func TestRead(t *testing.T) {
	if a, e := Read([]byte{2, 1, 2, 3, 4, 5, 6, 7, 8}); a != (api.Label{Level: 2, Comps: 0x0102030405060708}) || e != api.OK {
		t.Error(a, e)
	}
	for n := range 20 {
		want := api.OK
		if n < 9 {
			want = api.ErrShort
		} else if n > 9 {
			want = api.ErrLong
		}
		if a, e := Read(make([]byte, n)); e != want || a != (api.Label{}) {
			t.Error(n, a, e)
		}
	}
	// How many there are is told ahead of what they are.
	for _, n := range []int{1, 8, 10} {
		want := api.ErrShort
		if n > 9 {
			want = api.ErrLong
		}
		if a, e := Read(bytes.Repeat([]byte{255}, n)); e != want || a != (api.Label{}) {
			t.Error(n, a, e)
		}
	}
	for _, level := range []byte{4, 5, 128, 255} {
		if a, e := Read([]byte{level, 0, 0, 0, 0, 0, 0, 0, 1}); e != api.ErrForm || a != (api.Label{}) {
			t.Error(level, a, e)
		}
	}
	// What lies behind the end is not read.
	if _, e := Read(make([]byte, 8, 9)); e != api.ErrShort {
		t.Error(e)
	}
}

// P1.4

func TestPrint(t *testing.T) {
	for _, x := range []struct {
		a    api.Label
		want string
	}{
		{at(0), "0"},
		{at(3), "3"},
		{at(1, 0), "1,0"},
		{at(2, 0, 5), "2,0,5"},
		{at(0, 9, 10, 63), "0,9,10,63"},
		{at(4, 1), ""},
		{at(-1), ""},
		{at(math.MaxInt), ""},
	} {
		if s := Print(x.a); s != x.want {
			t.Error(x, s)
		}
	}
	s := Print(api.Label{Level: 3, Comps: all})
	if len(s) != 183 || !strings.HasPrefix(s, "3,0,1,2,") || !strings.HasSuffix(s, ",61,62,63") {
		t.Error(s)
	}
}

func TestParse(t *testing.T) {
	for s, want := range map[string]api.Label{"0": at(0), "3": at(3), "1,0": at(1, 0), "2,0,5": at(2, 0, 5), "0,9,10,63": at(0, 9, 10, 63)} {
		if a, e := Parse(s); a != want || e != api.OK {
			t.Error(s, a, e)
		}
	}
	for _, s := range []string{
		"", ",", ",0", "4", "9", "10", "00", "02", "-0", "-1", "+1", " 1", "1 ", "1.0", "a", "0x1",
		"1,", "1,,2", "1,0,", "1, 0", "1,0 ", "1;0", "1,+0", "1,-0", "1,-1", "1,00", "1,05", "1,0_1", "1,a",
		"1,64", "1,100", "1,5,0", "1,0,0", "1,63,63", "1,0,5,4", "1,0\n", "1\x00", "1,\xff", "\u0661",
		"18446744073709551616", "4294967297", "1,4294967296", "1,18446744073709551616", "1,18446744073709551617",
		strings.Repeat("1", 5000), "1," + strings.Repeat("0", 5000), strings.Repeat(",", 5000),
		Print(api.Label{Level: 3, Comps: all}) + ",64", Print(api.Label{Level: 3, Comps: all}) + ",0",
	} {
		if a, e := Parse(s); a != (api.Label{}) || e != api.ErrForm {
			t.Error(s, a, e)
		}
	}
}

// P1.5

func TestOrder(t *testing.T) {
	l := sample()
	for _, a := range l {
		if !Leq(a, a) || Join(a, a) != a || Meet(a, a) != a {
			t.Error("itself", a)
		}
		if Right(a) && !Leq(api.Label{}, a) {
			t.Error("the bottom", a)
		}
		for _, b := range l {
			if Leq(a, b) && Leq(b, a) && a != b {
				t.Error("both are one", a, b)
			}
			if Join(a, b) != Join(b, a) || Meet(a, b) != Meet(b, a) {
				t.Error("hangs on the order", a, b)
			}
			if Leq(a, b) != (Join(a, b) == b) || Leq(a, b) != (Meet(a, b) == a) {
				t.Error("what is at or below one", a, b)
			}
		}
	}
}

func TestOrderOfThree(t *testing.T) {
	l := sample()
	for _, a := range l {
		for _, b := range l {
			up, down := Join(a, b), Meet(a, b)
			if !Leq(a, up) || !Leq(b, up) || !Leq(down, a) || !Leq(down, b) {
				t.Fatal("bounds", a, b, up, down)
			}
			for _, c := range l {
				if Leq(a, b) && Leq(b, c) && !Leq(a, c) {
					t.Fatal("goes on over three", a, b, c)
				}
				if (Leq(a, c) && Leq(b, c)) != Leq(up, c) {
					t.Fatal("the least one", a, b, c)
				}
				if (Leq(c, a) && Leq(c, b)) != Leq(c, down) {
					t.Fatal("the greatest one", a, b, c)
				}
			}
		}
	}
}

// P1.6

func TestBelowIsNotBehind(t *testing.T) {
	l := sample()
	for _, a := range l {
		for _, b := range l {
			if Leq(a, b) && Cmp(a, b) > 0 {
				t.Error("at or below, but behind", a, b)
			}
			if (Cmp(a, b) == 0) != (a == b) || Cmp(a, b) != -Cmp(b, a) {
				t.Error("the same", a, b)
			}
		}
	}
}

// P1.7

func TestReadAsMade(t *testing.T) {
	l := sample()
	for bit := range 64 {
		l = append(l, at(bit%4, bit), api.Label{Level: bit % 4, Comps: all >> bit}, api.Label{Level: bit % 4, Comps: all << bit})
	}
	for _, a := range l {
		b, s := Bytes(a), Print(a)
		if !Right(a) {
			continue
		}
		if c, e := Read(b); c != a || e != api.OK {
			t.Error("bytes", a, b, c, e)
		}
		if c, e := Parse(s); c != a || e != api.OK {
			t.Error("text", a, s, c, e)
		}
	}
}

func TestNothingElseIsRead(t *testing.T) {
	for level := range 256 {
		b := []byte{byte(level), 9, 8, 7, 6, 5, 4, 3, 2}
		if a, e := Read(b); (e == api.OK) != (level < 4) || e == api.OK && !bytes.Equal(Bytes(a), b) {
			t.Error(b, a, e)
		}
	}
	tries(5, "", func(s string) {
		if a, e := Parse(s); e == api.OK && (!Right(a) || Print(a) != s) || e != api.OK && e != api.ErrForm {
			t.Error(s, a, e)
		}
	})
}

// tries hands on every text of at most n of some signs, with s ahead.
func tries(n int, s string, try func(string)) {
	try(s)
	if n == 0 {
		return
	}
	for _, sign := range []string{"0", "1", "3", "4", "6", "9", ",", "-", "+", " ", "_"} {
		tries(n-1, s+sign, try)
	}
}

// Compartments may be gone through again, and may be left early.

func TestEach(t *testing.T) {
	seq := each(0b1011)
	for range 2 {
		var got []int
		for bit := range seq {
			if bit == 3 {
				break
			}
			got = append(got, bit)
		}
		if !slices.Equal(got, []int{0, 1}) {
			t.Error(got)
		}
	}
}

// Rule 5: what is handed out is new, and what is handed in stays as it is.

func TestNewMemory(t *testing.T) {
	a := at(2, 0, 5)
	Bytes(a)[0] = 9
	Bits(a)[0] = 9
	if b := Bytes(a); b[0] != 2 || Bits(a)[0] != 0 {
		t.Error(b)
	}
	b := Bytes(a)
	if Read(b); !bytes.Equal(b, Bytes(a)) {
		t.Error(b)
	}
}
