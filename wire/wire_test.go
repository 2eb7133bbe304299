package wire

import (
	"bytes"
	"math"
	"strings"
	"testing"

	"rialto/api"
)

// behind is how much room spare leaves.
const behind = 600

// spare is bytes with room behind them, in which something lies.
func spare(b ...byte) []byte {
	room := append(append([]byte{}, b...), bytes.Repeat([]byte{77}, behind)...)
	return room[:len(b)]
}

// P2.1

func TestPutNum(t *testing.T) {
	const n = 0x0102030405060708
	for _, x := range []struct {
		size int
		want []byte
	}{
		{math.MinInt, []byte{8}},
		{-1, []byte{8}},
		{0, []byte{8}},
		{1, []byte{8}},
		{2, []byte{7, 8}},
		{3, []byte{6, 7, 8}},
		{4, []byte{5, 6, 7, 8}},
		{5, []byte{4, 5, 6, 7, 8}},
		{6, []byte{3, 4, 5, 6, 7, 8}},
		{7, []byte{2, 3, 4, 5, 6, 7, 8}},
		{8, []byte{1, 2, 3, 4, 5, 6, 7, 8}},
		{9, []byte{1, 2, 3, 4, 5, 6, 7, 8}},
		{math.MaxInt, []byte{1, 2, 3, 4, 5, 6, 7, 8}},
	} {
		if b := Num(nil, n, x.size); !bytes.Equal(b, x.want) {
			t.Error(x, b)
		}
		if b := Num([]byte{9, 10}, n, x.size); !bytes.Equal(b, append([]byte{9, 10}, x.want...)) {
			t.Error("behind others", x, b)
		}
	}
	if b := Num(nil, 258, 2); !bytes.Equal(b, []byte{1, 2}) {
		t.Error(b)
	}
	if b := Num(nil, 0, 3); !bytes.Equal(b, []byte{0, 0, 0}) {
		t.Error(b)
	}
	if b := Num([]byte{}, math.MaxUint64, 8); !bytes.Equal(b, bytes.Repeat([]byte{255}, 8)) {
		t.Error(b)
	}
}

func TestPutText(t *testing.T) {
	if b := Text([]byte{1, 2}, "ab"); !bytes.Equal(b, []byte{1, 2, 2, 97, 98}) {
		t.Error(b)
	}
	if b := Text(nil, ""); !bytes.Equal(b, []byte{0}) {
		t.Error(b)
	}
	if b := Text(nil, "\x00\xff"); !bytes.Equal(b, []byte{2, 0, 255}) {
		t.Error(b)
	}
	for _, n := range []int{1, 254, 255, 256, 300, 1000} {
		s := strings.Repeat("x", min(n, 254)) + strings.Repeat("y", max(n-254, 0))
		kept := min(n, 255)
		if b := Text([]byte{7}, s); string(b) != "\x07"+string([]byte{byte(kept)})+s[:kept] {
			t.Error(n, b)
		}
	}
}

func TestPutElsewhere(t *testing.T) {
	for _, put := range []func(b []byte) []byte{
		func(b []byte) []byte { return Num(b, 5, 1) },
		func(b []byte) []byte { return Num(b, 5, 8) },
		func(b []byte) []byte { return Text(b, "") },
		func(b []byte) []byte { return Text(b, "abc") },
	} {
		for _, b := range [][]byte{spare(), spare(1, 2, 3)} {
			was := bytes.Clone(b)
			one := put(b)
			first := bytes.Clone(one)
			one[0]++
			if !bytes.Equal(b, was) {
				t.Error("what was handed in is shared", b)
			}
			one[0]--
			if rest := b[len(b) : len(b)+behind]; bytes.Count(rest, []byte{77}) != behind {
				t.Error("written behind the end")
			}
			Num(b, 0xee, 1)
			Text(b, "other")
			if !bytes.Equal(one, first) {
				t.Error("two rows share what is behind", one, first)
			}
			// What is put behind an answer, too, is put elsewhere.
			two, three := Num(one, 1, 1), Num(one, 2, 1)
			if two[len(one)] != 1 || three[len(one)] != 2 {
				t.Error("answers share", two, three)
			}
		}
	}
}

// P2.2

func TestTakeNum(t *testing.T) {
	b := []byte{1, 2, 3, 4, 5, 6, 7, 8, 9}
	for size, want := range map[int]uint64{math.MinInt: 1, -1: 1, 0: 1, 1: 1, 2: 0x0102, 3: 0x010203, 4: 0x01020304, 5: 0x0102030405, 6: 0x010203040506, 7: 0x01020304050607, 8: 0x0102030405060708, 9: 0x0102030405060708, math.MaxInt: 0x0102030405060708} {
		c := From(b)
		used := min(max(size, 1), 8)
		if n := c.Num(size); n != want || c.Left() != 9-used || c.Fault() != api.OK {
			t.Error(size, n, c.Left(), c.Fault())
		}
		d := From(b[:used-1])
		if n := d.Num(size); n != 0 || d.Fault() != api.ErrShort || d.Left() != 0 {
			t.Error("missing", size, n, d.Fault())
		}
		e := From(b[:used])
		if n := e.Num(size); n != want || e.End() != api.OK {
			t.Error("just enough", size, n, e.End())
		}
	}
	if n := From(bytes.Repeat([]byte{255}, 8)).Num(8); n != math.MaxUint64 {
		t.Error(n)
	}
}

func TestTakeText(t *testing.T) {
	long := strings.Repeat("z", 255)
	for _, x := range []struct {
		b    []byte
		most int
		want string
		e    api.Errno
		left int
	}{
		{[]byte{2, 97, 98, 99}, 2, "ab", api.OK, 1},
		{[]byte{2, 97, 98, 99}, 40, "ab", api.OK, 1},
		{[]byte{2, 97, 98}, math.MaxInt, "ab", api.OK, 0},
		{[]byte{0, 5}, 0, "", api.OK, 1},
		{[]byte("\xff" + long), 255, long, api.OK, 0},
		{[]byte("\xff" + long), 300, long, api.OK, 0},
		{[]byte("\xff" + long), 254, "", api.ErrForm, 0},
		{[]byte{3, 97, 98, 99}, 2, "", api.ErrForm, 0},
		{[]byte{3, 97}, 2, "", api.ErrForm, 0},
		{[]byte{3}, 2, "", api.ErrForm, 0},
		{[]byte{3, 97, 98}, 3, "", api.ErrShort, 0},
		{[]byte{3}, 40, "", api.ErrShort, 0},
		{nil, 40, "", api.ErrShort, 0},
		{nil, -1, "", api.ErrShort, 0},
		{[]byte{}, 0, "", api.ErrShort, 0},
		{[]byte{0}, -1, "", api.ErrForm, 0},
		{[]byte{1, 97}, math.MinInt, "", api.ErrForm, 0},
		{[]byte{1, 97}, 0, "", api.ErrForm, 0},
	} {
		c := From(x.b)
		if s := c.Text(x.most); s != x.want || c.Fault() != x.e || c.Left() != x.left {
			t.Error(x, s, c.Fault(), c.Left())
		}
	}
}

func TestTake(t *testing.T) {
	for _, x := range []struct {
		n    int
		want string
		e    api.Errno
		left int
	}{
		{math.MinInt, "", api.OK, 3},
		{-1, "", api.OK, 3},
		{0, "", api.OK, 3},
		{1, "a", api.OK, 2},
		{3, "abc", api.OK, 0},
		{4, "", api.ErrShort, 0},
		{math.MaxInt, "", api.ErrShort, 0},
	} {
		c := From([]byte("abc"))
		if b := c.Take(x.n); string(b) != x.want || c.Fault() != x.e || c.Left() != x.left {
			t.Error(x, b, c.Fault(), c.Left())
		}
	}
	for _, b := range [][]byte{nil, {}} {
		c := From(b)
		if len(c.Take(0)) != 0 || len(c.Take(-5)) != 0 || c.End() != api.OK {
			t.Error("nothing of nothing", c.End())
		}
	}
}

func TestFirstFaultStays(t *testing.T) {
	for _, x := range []struct {
		fail func(c *Scan)
		want api.Errno
	}{
		{func(c *Scan) { c.Num(8) }, api.ErrShort},
		{func(c *Scan) { c.Take(6) }, api.ErrShort},
		{func(c *Scan) { c.Text(9) }, api.ErrShort},
		{func(c *Scan) { c.Text(8) }, api.ErrForm},
		{func(c *Scan) { c.Rule(false, api.ErrKind) }, api.ErrKind},
		{func(c *Scan) { c.Rule(false, api.Errno(-3)) }, api.Errno(-3)},
	} {
		c := From([]byte{9, 1, 2, 3, 4})
		x.fail(c)
		for range 2 {
			if c.Num(1) != 0 || c.Text(255) != "" || len(c.Take(1)) != 0 || len(c.Take(0)) != 0 || c.Left() != 0 {
				t.Error("something is told", x.want)
			}
			c.Rule(false, api.ErrDisk)
			c.Rule(true, api.ErrDisk)
			c.Text(-1)
			if c.Fault() != x.want || c.End() != x.want {
				t.Error(c.Fault(), c.End(), x.want)
			}
		}
	}
}

func TestScanKeepsItsOwn(t *testing.T) {
	b := spare(1, 2, 97, 98, 5, 6, 7)
	c := From(b)
	b[0], b[2], b[5] = 99, 99, 99
	if n, s := c.Num(1), c.Text(2); n != 1 || s != "ab" {
		t.Error("what was handed in is kept", n, s)
	}
	b[0], b[2], b[5] = 1, 97, 6
	one := c.Take(2)
	two := append(one, 88)
	one[1] = 66
	if b[5] != 6 || c.Num(1) != 7 || two[2] != 88 {
		t.Error("what is taken is shared", b, two)
	}
	if c.Num(1) != 0 || c.Fault() != api.ErrShort {
		t.Error("read behind the end", c.Fault())
	}
}

// P2.3

func TestRule(t *testing.T) {
	c := From([]byte{1, 2})
	c.Rule(true, api.ErrForm)
	c.Rule(false, api.OK)
	if c.Fault() != api.OK || c.Left() != 2 || c.Num(1) != 1 {
		t.Error("no fault yet", c.Fault(), c.Left())
	}
	c.Rule(false, api.ErrForm)
	c.Rule(false, api.ErrArg)
	if c.Fault() != api.ErrForm || c.Left() != 0 || c.Num(1) != 0 {
		t.Error(c.Fault(), c.Left())
	}
}

func TestLeftFaultEnd(t *testing.T) {
	c := From([]byte{1, 2, 3})
	if c.Left() != 3 || c.Fault() != api.OK || c.End() != api.ErrLong {
		t.Error(c.Left(), c.Fault(), c.End())
	}
	// To be asked for its end is no fault.
	if c.Fault() != api.OK || c.Num(2) != 258 || c.Left() != 1 || c.End() != api.ErrLong {
		t.Error(c.Left(), c.Fault(), c.End())
	}
	if c.Num(1) != 3 || c.Left() != 0 || c.Fault() != api.OK || c.End() != api.OK {
		t.Error(c.Left(), c.Fault(), c.End())
	}
	c.Num(1)
	if c.Left() != 0 || c.Fault() != api.ErrShort || c.End() != api.ErrShort {
		t.Error(c.Left(), c.Fault(), c.End())
	}
	for _, b := range [][]byte{nil, {}} {
		if c := From(b); c.Left() != 0 || c.Fault() != api.OK || c.End() != api.OK {
			t.Error("of nothing", c.Fault(), c.End())
		}
	}
}

func TestNoScan(t *testing.T) {
	for _, c := range []*Scan{nil, {}, new(Scan)} {
		for range 2 {
			if c.Num(1) != 0 || c.Num(-1) != 0 || c.Text(5) != "" || c.Text(-1) != "" || len(c.Take(1)) != 0 || len(c.Take(0)) != 0 || len(c.Take(-1)) != 0 {
				t.Error("something is told")
			}
			c.Rule(false, api.ErrForm)
			c.Rule(true, api.ErrForm)
			if c.Left() != 0 || c.Fault() != api.ErrNil || c.End() != api.ErrNil {
				t.Error(c.Left(), c.Fault(), c.End())
			}
		}
	}
}

// P2.4

func TestPutIsTaken(t *testing.T) {
	texts := []string{"", "a", "\x00\xff", strings.Repeat("q", 40), strings.Repeat("r", 255)}
	var b []byte
	for size := 1; size <= 8; size++ {
		b = Num(b, 0xf1e2d3c4b5a69788, size)
		b = Text(b, texts[size%len(texts)])
	}
	b = Num(b, 3, 1)
	b = append(b, 1, 2, 3)
	read := func(b []byte) *Scan {
		c := From(b)
		for size := 1; size <= 8; size++ {
			if n := c.Num(size); c.Fault() == api.OK && n != uint64(0xf1e2d3c4b5a69788)<<(64-8*size)>>(64-8*size) {
				t.Error("a number", size, n)
			}
			if s := c.Text(255); c.Fault() == api.OK && s != texts[size%len(texts)] {
				t.Error("a text", size, s)
			}
		}
		if got := c.Take(int(c.Num(1))); c.Fault() == api.OK && !bytes.Equal(got, []byte{1, 2, 3}) {
			t.Error("bytes", got)
		}
		return c
	}
	if c := read(b); c.End() != api.OK {
		t.Error(c.End())
	}
	if c := read(append(bytes.Clone(b), 0)); c.End() != api.ErrLong || c.Left() != 1 {
		t.Error(c.End(), c.Left())
	}
	for n := range b {
		if c := read(b[:n]); c.End() != api.ErrShort || c.Fault() != api.ErrShort {
			t.Error("cut", n, c.End())
		}
	}
}
