package frame

import (
	"bytes"
	"hash/crc32"
	"math"
	"slices"
	"testing"

	"rialto/api"
)

// short is the short sum of bytes, worked out by another hand.
func short(b []byte) uint16 {
	s := crc32.Checksum(b, crc32.MakeTable(crc32.Castagnoli))
	return uint16(s>>16) ^ uint16(s)
}

// frameOf is the frame of some bytes, at most 255, put together by hand.
func frameOf(b []byte) []byte {
	ahead := append([]byte{byte(len(b))}, b...)
	s := short(ahead)
	return append(ahead, byte(s/256), byte(s%256))
}

// row is n bytes that are all others.
func row(n int) []byte {
	out := make([]byte, n)
	for i := range out {
		out[i] = byte(i*7 + n)
	}
	return out
}

// spare is bytes with others behind them, of which nobody may know.
func spare(b []byte) []byte {
	return slices.Concat(b, bytes.Repeat([]byte{77}, 300))[:len(b)]
}

// mosts are numbers that may be asked for, each with the one that counts.
func mosts() map[int]int {
	return map[int]int{
		math.MinInt: 0, math.MinInt32: 0, -256: 0, -255: 0, -1: 0, 0: 0, 1: 1, 2: 2, 5: 5, 59: 59, 60: 60, 61: 61, 127: 127, 128: 128, 250: 250, 254: 254,
		255: 255, 256: 255, 257: 255, 300: 255, 511: 255, 512: 255, 1 << 32: 255, math.MaxInt: 255,
	}
}

// sizes are numbers of bytes.
func sizes() []int {
	return []int{0, 1, 2, 3, 5, 6, 58, 59, 60, 61, 62, 127, 128, 249, 250, 251, 253, 254, 255}
}

// P25.1

func TestWrap(t *testing.T) {
	// The sum of a byte 0 is 527d5351.
	if b, e := Wrap(nil, 60); e != api.OK || !bytes.Equal(b, []byte{0, 0x52 ^ 0x53, 0x7D ^ 0x51}) {
		t.Error("nothing", b, e)
	}
	// The sum of the bytes 1 and 97 is 716effc4.
	if b, e := Wrap([]byte("a"), 1); e != api.OK || !bytes.Equal(b, []byte{1, 97, 0x71 ^ 0xFF, 0x6E ^ 0xC4}) {
		t.Error("a byte", b, e)
	}
	for most, counts := range mosts() {
		for n := range 300 {
			b, e := Wrap(row(n), most)
			switch {
			case n > counts:
				if e != api.ErrLong || len(b) != 0 {
					t.Error("too long", n, most, b, e)
				}
			case e != api.OK || !bytes.Equal(b, frameOf(row(n))):
				t.Error("a frame", n, most, b, e)
			}
		}
	}
	for _, n := range []int{256, 257, 512, 513, 5000, 1 << 16, 1<<16 + 3} {
		if b, e := Wrap(make([]byte, n), math.MaxInt); e != api.ErrLong || len(b) != 0 {
			t.Error("more than a frame has", n, e)
		}
	}
}

func TestWrapIsNew(t *testing.T) {
	for _, n := range []int{0, 1, 5, 60, 255} {
		b := spare(row(n))
		one, _ := Wrap(b, 255)
		if !bytes.Equal(b, row(n)) || bytes.Count(b[:n+300][n:], []byte{77}) != 300 {
			t.Error("what was handed in is changed", n)
		}
		two, _ := Wrap(b, 255)
		for i := range one {
			one[i]++
		}
		if !bytes.Equal(b, row(n)) || !bytes.Equal(two, frameOf(row(n))) {
			t.Error("it is shared", n)
		}
	}
}

// P25.2

// took holds what Take answers against what it should.
func took(t *testing.T, what string, b []byte, most int, want []byte, used int, e api.Errno) {
	t.Helper()
	got, n, f := Take(b, most)
	if f != e || n != used || !bytes.Equal(got, want) {
		t.Error(what, "of", len(b), "bytes, most", most, "- got", got, n, f, "- want", want, used, e)
	}
}

func TestTakeNothing(t *testing.T) {
	for most := range mosts() {
		took(t, "nil", nil, most, nil, 0, api.ErrShort)
		took(t, "empty", []byte{}, most, nil, 0, api.ErrShort)
		took(t, "empty, with bytes behind its end", spare(nil), most, nil, 0, api.ErrShort)
	}
}

func TestTake(t *testing.T) {
	for most, counts := range mosts() {
		for _, n := range sizes() {
			b := frameOf(row(n))
			if n > counts {
				// What stands behind the first byte, or does not, is not asked.
				for _, b := range [][]byte{b, b[:1], b[:n], b[:n+1], slices.Concat(b, row(9)), spare(b[:1])} {
					took(t, "more than most", b, most, nil, 1, api.ErrLong)
				}
				continue
			}
			for _, behind := range [][]byte{nil, {0}, b, row(100)} {
				took(t, "a frame", slices.Concat(b, behind), most, row(n), n+3, api.OK)
			}
			for cut := range len(b) {
				took(t, "a cut one", b[:cut], most, nil, 0, api.ErrShort)
				took(t, "a cut one, with bytes behind its end", spare(b[:cut]), most, nil, 0, api.ErrShort)
			}
		}
	}
}

func TestTakeFirstByte(t *testing.T) {
	for most, counts := range mosts() {
		for c := range 256 {
			if c > counts {
				took(t, "it tells too much", []byte{byte(c)}, most, nil, 1, api.ErrLong)
				took(t, "it tells too much, and all is there", append([]byte{byte(c)}, make([]byte, 300)...), most, nil, 1, api.ErrLong)
			} else {
				took(t, "bytes are missing", []byte{byte(c)}, most, nil, 0, api.ErrShort)
				took(t, "one byte is missing", append([]byte{byte(c)}, make([]byte, c+1)...), most, nil, 0, api.ErrShort)
			}
		}
	}
}

func TestTakeWrongSum(t *testing.T) {
	for _, n := range sizes() {
		b := frameOf(row(n))
		for at := 1; at < len(b); at++ {
			for bit := range 8 {
				c := bytes.Clone(b)
				c[at] ^= 1 << bit
				took(t, "a turned bit", c, 255, nil, n+3, api.ErrSum)
				took(t, "a turned bit, and bytes behind", append(c, row(50)...), n, nil, n+3, api.ErrSum)
				took(t, "a turned bit, and one missing", c[:n+2], 255, nil, 0, api.ErrShort)
				if n > 0 {
					took(t, "a turned bit, and too long", c, n-1, nil, 1, api.ErrLong)
				}
			}
		}
	}
	// The greater byte stands first.
	b := frameOf([]byte("lamp"))
	b[5], b[6] = b[6], b[5]
	took(t, "the lesser byte first", b, 60, nil, 7, api.ErrSum)
}

func TestTakeEachSum(t *testing.T) {
	// The sum is of the byte ahead, too, and just one is right.
	for _, b := range [][]byte{{0}, {1, 0}, {2, 9, 9}} {
		right := 0
		for s := range 1 << 16 {
			c := append(bytes.Clone(b), byte(s>>8), byte(s))
			got, n, e := Take(c, 60)
			if e == api.OK {
				right++
				if uint16(s) != short(b) || n != len(c) || !bytes.Equal(got, b[1:]) {
					t.Error("another sum", b, s, got, n)
				}
			} else if e != api.ErrSum || n != len(c) || len(got) != 0 {
				t.Error(b, s, got, n, e)
			}
		}
		if right != 1 {
			t.Error(b, right)
		}
	}
}

func TestTakeIsNew(t *testing.T) {
	for _, n := range []int{1, 5, 255} {
		b := spare(frameOf(row(n)))
		was := bytes.Clone(b)
		got, _, _ := Take(b, 255)
		_ = append(got, 5, 5, 5, 5)
		for i := range got {
			got[i]++
		}
		if !bytes.Equal(b, was) {
			t.Error("what was handed in is changed", n)
		}
		got, _, _ = Take(b, 255)
		for i := range b {
			b[i]++
		}
		if !bytes.Equal(got, row(n)) {
			t.Error("what was handed in is kept", n)
		}
	}
}

// P25.3

// framed is frames of rows of so many bytes, one behind the other.
func framed(sizes ...int) []byte {
	var out []byte
	for _, n := range sizes {
		out = append(out, frameOf(row(n))...)
	}
	return out
}

// same tells whether frames are of rows of so many bytes.
func same(l [][]byte, sizes ...int) bool {
	if len(l) != len(sizes) {
		return false
	}
	for i, n := range sizes {
		if !bytes.Equal(l[i], row(n)) {
			return false
		}
	}
	return true
}

func TestAll(t *testing.T) {
	for most := range mosts() {
		for _, b := range [][]byte{nil, {}, spare(nil)} {
			if l, e := All(b, most); e != api.OK || len(l) != 0 {
				t.Error("nothing", most, l, e)
			}
		}
	}
	for _, l := range [][]int{{0}, {1}, {60}, {255}, {0, 0}, {0, 0, 0, 0}, {1, 0, 2}, {60, 60, 60}, {0, 255, 1, 254}, {5, 4, 3, 2, 1, 0, 1, 2, 3, 4, 5}, sizes()} {
		b := framed(l...)
		for most, counts := range mosts() {
			got, e := All(b, most)
			if slices.Max(l) > counts {
				if e != api.ErrLong || len(got) != 0 {
					t.Error("too long", l, most, got, e)
				}
			} else if e != api.OK || !same(got, l...) {
				t.Error(l, most, got, e)
			}
		}
	}
}

func TestAllFirstError(t *testing.T) {
	wrong := frameOf(row(3))
	wrong[2]++
	for i, x := range []struct {
		b []byte
		e api.Errno
	}{
		{wrong, api.ErrSum},
		{slices.Concat(framed(2), wrong), api.ErrSum},
		{slices.Concat(wrong, framed(2)), api.ErrSum},
		{slices.Concat(wrong, framed(9)), api.ErrSum},
		{slices.Concat(wrong, []byte{5}), api.ErrSum},
		{slices.Concat(framed(9), wrong), api.ErrLong},
		{slices.Concat(framed(2, 9), wrong), api.ErrLong},
		{slices.Concat(framed(2, 1), []byte{9}), api.ErrLong},
		{slices.Concat(framed(2), []byte{9}, framed(2, 2)), api.ErrLong},
		{framed(2, 3, 8)[:15], api.ErrShort},
		{slices.Concat(framed(2), wrong[:5]), api.ErrShort},
		{slices.Concat(framed(2), wrong[:1]), api.ErrShort},
		{slices.Concat(framed(8, 0), []byte{0}), api.ErrShort},
		{slices.Concat(framed(8, 0), []byte{0, 0}), api.ErrShort},
		{slices.Concat(framed(8, 0), []byte{0, 0, 0}), api.ErrSum},
		{[]byte{8}, api.ErrShort},
		{[]byte{9}, api.ErrLong},
	} {
		if l, e := All(x.b, 8); e != x.e || len(l) != 0 {
			t.Error(i, l, e, x.e)
		}
		if l, e := All(spare(x.b), 8); e != x.e || len(l) != 0 {
			t.Error("bytes behind the end are read", i, l, e, x.e)
		}
	}
}

func TestAllCut(t *testing.T) {
	l := []int{3, 0, 60, 1}
	b := framed(l...)
	ends := map[int]int{0: 0, 6: 1, 9: 2, 72: 3, 76: 4}
	for cut := range len(b) + 1 {
		got, e := All(b[:cut], 60)
		if n, ok := ends[cut]; ok {
			if e != api.OK || !same(got, l[:n]...) {
				t.Error("whole frames", cut, got, e)
			}
		} else if e != api.ErrShort || len(got) != 0 {
			t.Error("a cut one", cut, got, e)
		}
	}
}

func TestAllIsNew(t *testing.T) {
	l := []int{3, 4, 5}
	b := spare(framed(l...))
	was := bytes.Clone(b)
	got, _ := All(b, 60)
	for i := range got {
		_ = append(got[i], 9, 9, 9, 9)
	}
	if !same(got, l...) || !bytes.Equal(b, was) {
		t.Error("they share what is behind", got)
	}
	for i := range b {
		b[i]++
	}
	if !same(got, l...) {
		t.Error("what was handed in is kept", got)
	}
}

func TestAllMany(t *testing.T) {
	const many = 200000
	b := bytes.Repeat(framed(1), many)
	if l, e := All(b, 1); e != api.OK || len(l) != many {
		t.Error(len(l), e)
	}
	if l, e := All(append(b, 1), 1); e != api.ErrShort || len(l) != 0 {
		t.Error(len(l), e)
	}
}

// What is there in all short rows of some few bytes, held against frames taken one by one.
func TestAllShortRows(t *testing.T) {
	empty, one := frameOf(nil), frameOf([]byte{0})
	signs := slices.Compact(slices.Sorted(slices.Values(slices.Concat(empty, one, []byte{0, 1, 2}))))
	rows := [][]byte{nil}
	for n := 0; n < len(rows); n++ {
		b := rows[n]
		var want [][]byte
		left, e := b, api.OK
		for len(left) > 0 && e == api.OK {
			var got []byte
			var used int
			got, used, e = Take(left, 1)
			want = append(want, got)
			left = left[used:]
		}
		if e != api.OK {
			want = nil
		}
		if l, f := All(b, 1); f != e || !slices.EqualFunc(l, want, bytes.Equal) {
			t.Fatal(b, l, f, want, e)
		}
		if len(b) < 6 {
			for _, c := range signs {
				rows = append(rows, append(slices.Clip(b), c))
			}
		}
	}
}

// P25.4

func TestAsTheyWereWrapped(t *testing.T) {
	var stream []byte
	var said [][]byte
	for i := range 120 {
		b := row(i * 37 % 61)
		f, e := Wrap(b, api.MaxPayload)
		if e != api.OK {
			t.Fatal(i, e)
		}
		said = append(said, b)
		stream = append(stream, f...)
	}
	if l, e := All(stream, api.MaxPayload); e != api.OK || !slices.EqualFunc(l, said, bytes.Equal) {
		t.Error("all at once", e)
	}
	for _, at := range []int{1, 2, 3, 7, 62, 63, 64, 256, 1000} {
		var kept []byte
		var got [][]byte
		for part := range slices.Chunk(stream, at) {
			kept = append(kept, part...)
			for {
				b, used, e := Take(kept, api.MaxPayload)
				if e == api.ErrShort {
					break
				}
				if e != api.OK {
					t.Fatal(at, e)
				}
				got = append(got, b)
				kept = kept[used:]
			}
		}
		if len(kept) != 0 || !slices.EqualFunc(got, said, bytes.Equal) {
			t.Error("in parts of", at, len(kept), len(got))
		}
	}
}
