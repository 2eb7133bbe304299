package sum

import (
	"bytes"
	"hash/crc32"
	"math"
	"testing"
)

// plain does what the document says, bit by bit.
func plain(b []byte) uint32 {
	register := uint32(math.MaxUint32)
	for _, x := range b {
		for bit := range 8 {
			together := (uint32(x)>>bit ^ register) & 1
			register >>= 1
			if together == 1 {
				register ^= 0x82F63B78
			}
		}
	}
	return register ^ math.MaxUint32
}

// mix is n bytes that look like chance.
func mix(n int, seed uint32) []byte {
	out := make([]byte, n)
	for i := range out {
		seed = seed*1664525 + 1013904223
		out[i] = byte(seed >> 24)
	}
	return out
}

// sample has rows of bytes of many lengths.
func sample() [][]byte {
	out := [][]byte{nil, {}, []byte("123456789"), make([]byte, 1), make([]byte, 40), bytes.Repeat([]byte{255}, 33), {0, 0, 1}, {128}}
	for c := range 256 {
		out = append(out, []byte{byte(c)})
	}
	for n := range 140 {
		out = append(out, mix(n, uint32(n)))
	}
	return append(out, mix(5000, 7))
}

// P4.1

func TestOf(t *testing.T) {
	if n := Of([]byte("123456789")); n != 3808858755 {
		t.Error(n)
	}
	if Of(nil) != 0 || Of([]byte{}) != 0 {
		t.Error("of nothing", Of(nil))
	}
	// Known ones, beside what is worked out.
	for s, want := range map[string]uint32{"a": 0xC1D04330, "\x00": 0x527D5351, string(make([]byte, 32)): 0x8A9136AA, string(bytes.Repeat([]byte{255}, 32)): 0x62A8AB43} {
		if n := Of([]byte(s)); n != want {
			t.Errorf("%q %x", s, n)
		}
	}
	table := crc32.MakeTable(crc32.Castagnoli)
	for _, b := range sample() {
		if n := Of(b); n != plain(b) || n != crc32.Checksum(b, table) {
			t.Errorf("%x %x", b, n)
		}
	}
}

func TestOn(t *testing.T) {
	for _, b := range sample() {
		for _, cut := range []int{0, 1, len(b) / 2, len(b) - 1, len(b)} {
			if cut < 0 || cut > len(b) {
				continue
			}
			if n := On(Of(b[:cut]), b[cut:]); n != plain(b) {
				t.Errorf("%x %d %x", b, cut, n)
			}
		}
	}
	// Each number is the sum of some bytes: it is gone on with by the same rule.
	table := crc32.MakeTable(crc32.Castagnoli)
	for _, was := range []uint32{0, 1, 2, 0x80000000, 0xFFFFFFFF, 0x82F63B78, 0x12345678} {
		for _, b := range sample() {
			if n := On(was, b); n != crc32.Update(was, table, b) {
				t.Errorf("%x %x %x", was, b, n)
			}
		}
		if On(was, nil) != was {
			t.Error("nothing behind it", was)
		}
	}
}

func TestShort(t *testing.T) {
	// 3808858755 is e3069283.
	if n := Short([]byte("123456789")); n != 0xE306^0x9283 {
		t.Error(n)
	}
	if Short(nil) != 0 {
		t.Error(Short(nil))
	}
	for _, b := range sample() {
		s := plain(b)
		if n := Short(b); n != uint16(s/65536)^uint16(s%65536) {
			t.Errorf("%x %x", b, n)
		}
	}
}

func TestBehindTheEnd(t *testing.T) {
	b := mix(20, 3)
	was := bytes.Clone(b)
	if Of(b[:9]) != plain(was[:9]) || Short(b[:9]) != Short(was[:9]) || !bytes.Equal(b, was) {
		t.Error(b)
	}
}

// P4.2

func TestGoneOn(t *testing.T) {
	for i, a := range sample() {
		for _, b := range [][]byte{nil, {0}, {255, 1}, mix(i, 5)} {
			both := append(bytes.Clone(a), b...)
			if Of(both) != On(Of(a), b) || On(On(7, a), b) != On(7, both) {
				t.Errorf("%x %x", a, b)
			}
		}
	}
}

// P4.3

func TestTurned32(t *testing.T) {
	patterns := []uint32{1, 3, 0x80000001, 0xFFFFFFFF, 0x82F63B78, 0x82F63B79, 0x05EC76F1, 0x1EDC6F41}
	for bit := range 32 {
		patterns = append(patterns, 1<<bit|1, math.MaxUint32>>bit)
	}
	for seed := range 200 {
		p := mix(4, uint32(seed))
		patterns = append(patterns, uint32(p[0])<<24|uint32(p[1])<<16|uint32(p[2])<<8|uint32(p[3])|1)
	}
	for _, n := range []int{1, 4, 5, 9, 16} {
		b := mix(n, 11)
		was := Of(b)
		for at := range n * 8 {
			for _, p := range patterns {
				c := turn(b, at, p)
				if !bytes.Equal(b, c) && Of(c) == was {
					t.Fatalf("%d %d %x", n, at, p)
				}
			}
		}
	}
}

// turn turns those bits of bytes that a pattern has, from the bit at on.
func turn(b []byte, at int, pattern uint32) []byte {
	out := bytes.Clone(b)
	for i := range 32 {
		if k := at + i; pattern>>i&1 == 1 && k < len(b)*8 {
			out[k/8] ^= 1 << (k % 8)
		}
	}
	return out
}

// P4.4

func TestTakenTogether(t *testing.T) {
	for n := range 150 {
		a, b := mix(n, 1), mix(n, 2)
		both := make([]byte, n)
		for i := range both {
			both[i] = a[i] ^ b[i]
		}
		if Of(a)^Of(b)^Of(both)^Of(make([]byte, n)) != 0 {
			t.Error(n)
		}
	}
}
