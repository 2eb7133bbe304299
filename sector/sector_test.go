package sector

import (
	"bytes"
	"encoding/binary"
	"hash/crc32"
	"math"
	"testing"

	"rialto/api"
)

// greatest is the greatest stamp that may be.
const greatest = 1 << 62

// hand is a sealed sector made by hand, also of a stamp that may not be: both stamps, 108 bytes of a load, and their sum.
func hand(one, two uint64, load []byte) []byte {
	b := binary.BigEndian.AppendUint64(nil, one)
	b = append(b, load...)
	b = append(b, make([]byte, 108-len(load))...)
	b = binary.BigEndian.AppendUint32(b, crc32.Checksum(b, crc32.MakeTable(crc32.Castagnoli)))
	return binary.BigEndian.AppendUint64(b, two)
}

// mixed is n bytes that look like chance.
func mixed(n int, seed uint32) []byte {
	out := make([]byte, n)
	for i := range out {
		seed = seed*1664525 + 1013904223
		out[i] = byte(seed >> 24)
	}
	return out
}

// stamps are those at the edges, and between.
func stamps() []uint64 {
	return []uint64{1, 2, 7, 255, 256, 257, 0x0102030405060708, 1 << 32, 1<<32 + 1, 1<<61 + 5, greatest - 1, greatest}
}

// wrong are stamps that may not be.
func wrong() []uint64 {
	return []uint64{0, greatest + 1, 1<<62 + 1<<32, 1 << 63, 1<<63 + 1, math.MaxUint64}
}

// loads are of all lengths that may be.
func loads() [][]byte {
	out := [][]byte{nil, []byte("a"), bytes.Repeat([]byte{255}, 108)}
	for n := range 109 {
		out = append(out, mixed(n, uint32(n)))
	}
	return out
}

// sealed is a sealed sector that must be.
func sealed(t *testing.T, stamp uint64, load []byte) []byte {
	t.Helper()
	b, e := Seal(stamp, load)
	if e != api.OK {
		t.Fatal("Seal", stamp, len(load), e)
	}
	return b
}

// refused tells that bytes are not opened, and what is told of them.
func refused(t *testing.T, b []byte) api.Errno {
	t.Helper()
	stamp, load, e := Open(b)
	if stamp != 0 || load != nil {
		t.Error("something is told beside an error", stamp, load, e)
	}
	return e
}

// P8.1

func TestExample(t *testing.T) {
	b := sealed(t, 7, []byte("a"))
	seven := []byte{0, 0, 0, 0, 0, 0, 0, 7}
	if len(b) != 128 || !bytes.HasPrefix(b, append(seven[:8:8], 'a', 0)) || !bytes.HasSuffix(b, seven) {
		t.Error(b)
	}
}

func TestSeal(t *testing.T) {
	for _, stamp := range stamps() {
		for _, load := range loads() {
			if b := sealed(t, stamp, load); !bytes.Equal(b, hand(stamp, stamp, load)) {
				t.Error(stamp, load, b)
			}
		}
	}
}

func TestSealWrong(t *testing.T) {
	long := make([]byte, 1000)
	for _, stamp := range stamps() {
		for _, n := range []int{109, 110, 128, 1000} {
			if b, e := Seal(stamp, long[:n]); b != nil || e != api.ErrLong {
				t.Error(stamp, n, b, e)
			}
		}
	}
	for _, stamp := range wrong() {
		for _, n := range []int{0, 1, 108, 109, 1000} {
			if b, e := Seal(stamp, long[:n]); b != nil || e != api.ErrArg {
				t.Error(stamp, n, b, e)
			}
		}
	}
}

func TestSealMemory(t *testing.T) {
	for n := range 109 {
		room := mixed(300, 4)
		load := room[:n]
		b := sealed(t, 9, load)
		if !bytes.Equal(room, mixed(300, 4)) {
			t.Error("what was handed in is changed", n)
		}
		if !bytes.Equal(b, hand(9, 9, mixed(n, 4))) {
			t.Error("what lies behind is read", n)
		}
		again := sealed(t, 9, load)
		for i := range load {
			load[i]++
		}
		again[20]++
		if !bytes.Equal(b, hand(9, 9, mixed(n, 4))) {
			t.Error("shared", n)
		}
	}
}

// P8.2

func TestOpen(t *testing.T) {
	for _, stamp := range stamps() {
		for _, load := range loads() {
			got, l, e := Open(hand(stamp, stamp, load))
			if got != stamp || e != api.OK || len(l) != 108 || !bytes.Equal(l, append(bytes.Clone(load), make([]byte, 108-len(load))...)) {
				t.Error(stamp, load, got, l, e)
			}
		}
	}
}

func TestOpenLengths(t *testing.T) {
	good := hand(5, 5, mixed(108, 1))
	for n := range 128 {
		for _, b := range [][]byte{good[:n], make([]byte, n), mixed(n, 3), bytes.Repeat([]byte{255}, n)} {
			if e := refused(t, b); e != api.ErrShort {
				t.Error(n, e)
			}
		}
	}
	if e := refused(t, nil); e != api.ErrShort {
		t.Error(e)
	}
	for n := 129; n < 300; n++ {
		for _, b := range [][]byte{append(bytes.Clone(good), make([]byte, n-128)...), make([]byte, n), mixed(n, 3)} {
			if e := refused(t, b); e != api.ErrLong {
				t.Error(n, e)
			}
		}
	}
}

func TestOpenStamps(t *testing.T) {
	for _, one := range append(stamps(), wrong()...) {
		for _, two := range append(stamps(), wrong()...) {
			may := one == two && one >= 1 && one <= greatest
			b := hand(one, two, []byte("load"))
			if may {
				if stamp, _, e := Open(b); stamp != one || e != api.OK {
					t.Error(one, e)
				}
				continue
			}
			if e := refused(t, b); e != api.ErrForm {
				t.Error(one, two, e)
			}
			// What is wrong with the stamps is told ahead of the sum.
			b[50]++
			if e := refused(t, b); e != api.ErrForm {
				t.Error("ahead of the sum", one, two, e)
			}
		}
	}
	if e := refused(t, make([]byte, 128)); e != api.ErrForm {
		t.Error("bytes 0", e)
	}
	if e := refused(t, bytes.Repeat([]byte{255}, 128)); e != api.ErrForm {
		t.Error("bytes 255", e)
	}
}

func TestOpenSum(t *testing.T) {
	for bit := 64; bit < 960; bit++ {
		b := hand(3, 3, mixed(100, 9))
		b[bit/8] ^= 1 << (bit % 8)
		if e := refused(t, b); e != api.ErrSum {
			t.Error("load and sum", bit, e)
		}
	}
	for bit := range 64 {
		for _, at := range []int{bit, 960 + bit} {
			b := hand(3, 3, mixed(100, 9))
			b[at/8] ^= 1 << (at % 8)
			if e := refused(t, b); e != api.ErrForm {
				t.Error("one stamp", at, e)
			}
		}
		// Both stamps turned alike: another one that may be, and the old sum; or one that may not be.
		b := hand(3, 3, mixed(100, 9))
		b[bit/8] ^= 1 << (bit % 8)
		b[120+bit/8] ^= 1 << (bit % 8)
		want := api.ErrSum
		if stamp := binary.BigEndian.Uint64(b); stamp < 1 || stamp > greatest {
			want = api.ErrForm
		}
		if e := refused(t, b); e != want {
			t.Error("both stamps", bit, e)
		}
	}
	// With its greatest byte behind it is not the sum.
	b := hand(3, 3, []byte("abc"))
	b[116], b[117], b[118], b[119] = b[119], b[118], b[117], b[116]
	if e := refused(t, b); e != api.ErrSum {
		t.Error("turned round", e)
	}
	copy(b[116:120], make([]byte, 4))
	if e := refused(t, b); e != api.ErrSum {
		t.Error("no sum", e)
	}
}

func TestOpenMemory(t *testing.T) {
	room := append(hand(5, 5, mixed(108, 1)), 77, 78)
	was := bytes.Clone(room)
	_, one, e := Open(room[:128])
	if e != api.OK || !bytes.Equal(room, was) {
		t.Fatal("what was handed in is changed", e)
	}
	_, two, _ := Open(room[:128])
	one[0]++
	one = append(one, 1, 2, 3)
	if !bytes.Equal(room, was) || !bytes.Equal(two, mixed(108, 1)) || len(one) != 111 {
		t.Error("shared")
	}
	room[8]++
	if !bytes.Equal(two, mixed(108, 1)) {
		t.Error("what was handed in is kept")
	}
	if behind := two[:cap(two)]; bytes.Contains(behind, was[116:120]) {
		t.Error("what stands behind the load is handed out")
	}
}

// P8.3

func TestSealedIsOpened(t *testing.T) {
	for _, stamp := range stamps() {
		for _, load := range loads() {
			got, l, e := Open(sealed(t, stamp, load))
			if got != stamp || e != api.OK || len(l) != 108 || !bytes.HasPrefix(l, load) || len(bytes.Trim(l[len(load):], "\x00")) != 0 {
				t.Error(stamp, load, got, l, e)
			}
		}
	}
}

// turn turns those bits of bytes that a pattern has, from the bit at on, below an end.
func turn(b []byte, at, end int, pattern uint32) []byte {
	out := bytes.Clone(b)
	for i := range 32 {
		if k := at + i; pattern>>i&1 == 1 && k < end {
			out[k/8] ^= 1 << (k % 8)
		}
	}
	return out
}

func TestTurned(t *testing.T) {
	patterns := []uint32{1, 3, 0x80000001, math.MaxUint32, 0x82F63B78, 0x82F63B79, 0x05EC76F1, 0x1EDC6F41}
	for bit := range 32 {
		patterns = append(patterns, 1<<bit|1, math.MaxUint32>>bit)
	}
	for seed := range 60 {
		patterns = append(patterns, binary.LittleEndian.Uint32(mixed(4, uint32(seed)))|1)
	}
	for _, b := range [][]byte{sealed(t, 1, nil), sealed(t, 0x0102030405060708, mixed(108, 2)), sealed(t, greatest, mixed(50, 3))} {
		// All ahead of the sum, or all from its beginning on.
		for _, part := range []struct{ from, end int }{{0, 928}, {928, 1024}} {
			for at := part.from; at < part.end; at++ {
				for _, p := range patterns {
					c := turn(b, at, part.end, p)
					if _, _, e := Open(c); e != api.ErrForm && e != api.ErrSum && !bytes.Equal(b, c) {
						t.Fatalf("%d %x %d", at, p, e)
					}
				}
			}
		}
	}
}

// P8.4

func TestCutOff(t *testing.T) {
	for _, was := range append(stamps(), 0) {
		old := make([]byte, 128)
		if was > 0 {
			old = sealed(t, was, mixed(108, 6))
		}
		for _, stamp := range stamps() {
			if stamp == was {
				continue
			}
			fresh := sealed(t, stamp, mixed(108, 7))
			for n := range 129 {
				b := append(bytes.Clone(fresh[:n]), old[n:]...)
				got, l, e := Open(b)
				switch {
				case bytes.Equal(b, fresh):
					if got != stamp || !bytes.Equal(l, mixed(108, 7)) || e != api.OK {
						t.Error("the new one", was, stamp, n, e)
					}
				case bytes.Equal(b, old) && was > 0:
					if got != was || !bytes.Equal(l, mixed(108, 6)) || e != api.OK {
						t.Error("the old one", was, stamp, n, e)
					}
				default:
					if got != 0 || l != nil || e != api.ErrForm {
						t.Error("neither", was, stamp, n, e)
					}
				}
			}
		}
	}
}
