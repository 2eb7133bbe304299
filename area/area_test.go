package area

import (
	"bytes"
	"encoding/binary"
	"hash/crc32"
	"math"
	"testing"

	"rialto/api"
	"rialto/disk"
)

// sealed is a sealed sector, made by hand.
func sealed(stamp uint64, load []byte) []byte {
	out := binary.BigEndian.AppendUint64(nil, stamp)
	out = append(out, load...)
	out = append(out, make([]byte, 116-len(out))...)
	out = binary.BigEndian.AppendUint32(out, crc32.Checksum(out, crc32.MakeTable(crc32.Castagnoli)))
	return binary.BigEndian.AppendUint64(out, stamp)
}

// loads are the loads of an area of many sectors that tells so many bytes, and has these.
func loads(many int, tells uint32, b []byte) [][]byte {
	all := append(binary.BigEndian.AppendUint32(nil, tells), b...)
	all = append(all, make([]byte, 108*many-len(all))...)
	var out [][]byte
	for i := range many {
		out = append(out, all[108*i:108*(i+1)])
	}
	return out
}

// filled are the sectors that bytes fill, made by hand.
func filled(many int, stamp uint64, b []byte) [][]byte {
	var out [][]byte
	for _, l := range loads(many, uint32(len(b)), b) {
		out = append(out, sealed(stamp, l))
	}
	return out
}

// some are so many bytes, none of them 0.
func some(n, seed int) []byte {
	out := make([]byte, n)
	for i := range out {
		out[i] = byte((i*7+i/255+seed*13)%255) + 1
	}
	return out
}

// made is a disk that must be.
func made(t *testing.T, n int) *disk.Disk {
	t.Helper()
	d, e := disk.New(n)
	if e != api.OK {
		t.Fatal("New", n, e)
	}
	return d
}

// puts puts sectors on a disk, side by side, and flushes them.
func puts(t *testing.T, d *disk.Disk, first int, all ...[]byte) {
	t.Helper()
	for i, b := range all {
		if e := d.Write(first+i, b); e != api.OK {
			t.Fatal("Write", first+i, e)
		}
	}
	if e := d.Flush(); e != api.OK {
		t.Fatal("Flush", e)
	}
}

// writes writes an area, which must go well.
func writes(t *testing.T, d *disk.Disk, first, many int, stamp uint64, b []byte) {
	t.Helper()
	if e := Write(d, first, many, stamp, b); e != api.OK {
		t.Fatal("Write", first, many, stamp, len(b), e)
	}
}

// reads holds what is read against what must be.
func reads(t *testing.T, d *disk.Disk, first, many int, stamp uint64, b []byte) {
	t.Helper()
	s, got, e := Read(d, first, many)
	if e != api.OK || s != stamp || !bytes.Equal(got, b) {
		t.Error("Read", first, many, s, stamp, len(got), len(b), e)
	}
}

// nothing holds that an area can't be read.
func nothing(t *testing.T, d *disk.Disk, first, many int, want api.Errno) {
	t.Helper()
	if s, b, e := Read(d, first, many); s != 0 || len(b) != 0 || e != want {
		t.Error("Read", first, many, s, b, e, "not", want)
	}
}

// newest holds the newest number against what must be.
func newest(t *testing.T, d *disk.Disk, first, many int, want uint64) {
	t.Helper()
	if n, e := Newest(d, first, many); n != want || e != api.OK {
		t.Error("Newest", first, many, n, e, "not", want)
	}
}

// sectorsOf is all that stands on a disk.
func sectorsOf(t *testing.T, d *disk.Disk) [][]byte {
	t.Helper()
	var out [][]byte
	for i := range d.Size() {
		b, e := d.Read(i)
		if e != api.OK {
			t.Fatal("Read", i, e)
		}
		out = append(out, b)
	}
	return out
}

// same tells whether the same stands in all sectors.
func same(a, b [][]byte) bool {
	return bytes.Equal(bytes.Join(a, nil), bytes.Join(b, nil)) && len(a) == len(b)
}

// stamps are ones that may be.
func stamps() []uint64 { return []uint64{1, 2, 255, 256, 1 << 32, 1<<62 - 1, 1 << 62} }

// wrongStamps are ones that may not be.
func wrongStamps() []uint64 { return []uint64{0, 1<<62 + 1, 1 << 63, math.MaxUint64} }

// outside are areas that are not all on a disk of so many sectors, and ones of none.
func outside(size int) [][2]int {
	out := [][2]int{
		{0, size + 1}, {1, size}, {size, 1}, {size - 1, 2}, {size + 1, 1}, {-1, 1}, {-1, size}, {-size, size}, {-1, size + 1}, {-2, 3},
		{math.MaxInt, 1}, {1, math.MaxInt}, {math.MaxInt, math.MaxInt}, {0, math.MaxInt}, {math.MinInt, 1}, {math.MinInt, math.MaxInt},
		{math.MaxInt - 1, 2}, {math.MinInt, math.MinInt}, {1, math.MaxInt/108 + 2}, {1 << 62, 1 << 62}, {-1 << 62, 1 << 62}, {size - math.MaxInt, math.MaxInt},
	}
	for _, first := range []int{0, 1, size - 1, size, -1, math.MinInt, math.MaxInt} {
		out = append(out, [2]int{first, 0}, [2]int{first, -1}, [2]int{first, -size}, [2]int{first, math.MinInt})
	}
	return out
}

// P9.1

func TestRoom(t *testing.T) {
	for _, c := range [][2]int{{1, 104}, {2, 212}, {3, 320}, {10, 1076}, {16384, 1769468}, {1 << 40, 108<<40 - 4}} {
		if n := Room(c[0]); n != c[1] {
			t.Error(c[0], n)
		}
	}
	for _, many := range []int{0, -1, -2, -108, -1 << 40, math.MinInt + 1, math.MinInt} {
		if n := Room(many); n != 0 {
			t.Error(many, n)
		}
	}
	for _, many := range []int{math.MaxInt / 108, math.MaxInt/108 + 1, math.MaxInt / 2, math.MaxInt} {
		if n := Room(many); n < math.MaxInt-112 {
			t.Error(many, n)
		}
	}
}

// lengths are lengths of bytes that have room in so many sectors.
func lengths(many int) []int {
	var out []int
	for _, n := range []int{0, 1, 2, 103, 104, 105, 108, 112, 211, 212, 213, 255, 256, 257, 319, 320} {
		if n < 108*many-4 {
			out = append(out, n)
		}
	}
	return append(out, 108*many-4)
}

func TestWrite(t *testing.T) {
	for many := 1; many <= 4; many++ {
		for first := 0; first+many <= 6; first++ {
			for i, n := range lengths(many) {
				d := made(t, 6)
				want := sectorsOf(t, d)
				for k := range want {
					want[k] = sealed(9, some(108, k))
				}
				puts(t, d, 0, want...)
				stamp := stamps()[i%len(stamps())]
				writes(t, d, first, many, stamp, some(n, i))
				copy(want[first:], filled(many, stamp, some(n, i)))
				if !same(sectorsOf(t, d), want) {
					t.Error("what stands there", many, first, n)
				}
				if d.Waits() != many {
					t.Error("what waits", d.Waits(), many)
				}
			}
		}
	}
}

func TestWriteOfAWholeDisk(t *testing.T) {
	d := made(t, 16384)
	b := some(108*16384-4, 1)
	if e := Write(d, 0, 16384, 5, append(b, 1)); e != api.ErrLong || d.Waits() != 0 {
		t.Error("one more", e)
	}
	writes(t, d, 0, 16384, 5, b)
	reads(t, d, 0, 16384, 5, b)
	newest(t, d, 0, 16384, 5)
	writes(t, d, 16383, 1, 6, b[:104])
	reads(t, d, 16383, 1, 6, b[:104])
	newest(t, d, 0, 16384, 6)
	nothing(t, d, 0, 16384, api.ErrForm)
}

// refused holds that nothing is written.
func refused(t *testing.T, d *disk.Disk, first, many int, stamp uint64, b []byte, want api.Errno) {
	t.Helper()
	d.Fuse(d.Size() + 1)
	waits := d.Waits()
	if e := Write(d, first, many, stamp, b); e != want {
		t.Error("Write", first, many, stamp, len(b), e, "not", want)
	}
	if d.Waits() != waits {
		t.Error("it waits", first, many, stamp, len(b))
	}
	d.Fuse(-1)
}

func TestWriteWrong(t *testing.T) {
	d := made(t, 3)
	puts(t, d, 0, sealed(1, nil), sealed(2, nil), sealed(3, nil))
	was := sectorsOf(t, d)
	for _, c := range outside(3) {
		for _, stamp := range []uint64{0, 1, 7, 1<<62 + 1} {
			for _, n := range []int{0, 1, 104, 105, 1000} {
				refused(t, d, c[0], c[1], stamp, some(n, 1), api.ErrArg)
			}
		}
	}
	for _, stamp := range wrongStamps() {
		for _, n := range []int{0, 1, 104, 105, 320, 321, 1000} {
			refused(t, d, 0, 1, stamp, some(n, 1), api.ErrArg)
			refused(t, d, 0, 3, stamp, some(n, 1), api.ErrArg)
		}
	}
	for many := 1; many <= 3; many++ {
		for _, n := range []int{108*many - 3, 108*many - 2, 108 * many, 108*many + 1, 1000} {
			refused(t, d, 3-many, many, 7, some(n, 1), api.ErrLong)
		}
	}
	if !same(was, sectorsOf(t, d)) {
		t.Error("it was written")
	}
}

func TestPowerIsOff(t *testing.T) {
	d := made(t, 3)
	writes(t, d, 0, 3, 4, some(200, 1))
	d.Fuse(0)
	if d.Flush() != api.ErrPower {
		t.Fatal("the power is on")
	}
	for _, c := range outside(3) {
		refused(t, d, c[0], c[1], 7, nil, api.ErrArg)
		nothing(t, d, c[0], c[1], api.ErrArg)
		if n, e := Newest(d, c[0], c[1]); n != 0 || e != api.ErrArg {
			t.Error("Newest", c, n, e)
		}
	}
	for _, stamp := range append(stamps(), wrongStamps()...) {
		for _, n := range []int{0, 1, 104, 105, 320, 321, 1000} {
			refused(t, d, 0, 1, stamp, some(n, 1), api.ErrPower)
			refused(t, d, 0, 3, stamp, some(n, 1), api.ErrPower)
		}
	}
	nothing(t, d, 0, 3, api.ErrPower)
	nothing(t, d, 2, 1, api.ErrPower)
	if n, e := Newest(d, 0, 3); n != 0 || e != api.ErrPower {
		t.Error("Newest", n, e)
	}
	d.Crash([]byte{16, 16, 16})
	reads(t, d, 0, 3, 4, some(200, 1))
}

func TestPowerGoesOnTheWay(t *testing.T) {
	for many := 1; many <= 4; many++ {
		for n := range many {
			d := made(t, 6)
			want := filled(6, 3, some(600, 2))
			puts(t, d, 0, want...)
			d.Fuse(n)
			if e := Write(d, 1, many, 4, some(100*many, 3)); e != api.ErrPower || !d.Off() || d.Waits() != n+1 {
				t.Error(many, n, e, d.Off(), d.Waits())
			}
			d.Crash(bytes.Repeat([]byte{16}, n+1))
			copy(want[1:2+n], filled(many, 4, some(100*many, 3)))
			if !same(sectorsOf(t, d), want) {
				t.Error("the sectors do not rise", many, n)
			}
		}
		d := made(t, 6)
		d.Fuse(many)
		writes(t, d, 1, many, 4, nil)
		if d.Off() || d.Waits() != many {
			t.Error("more is done than to write", many)
		}
		if d.Flush() != api.ErrPower {
			t.Error("less is done than to write", many)
		}
	}
}

func TestNoDisk(t *testing.T) {
	for _, d := range []*disk.Disk{nil, {}, new(disk.Disk)} {
		for _, c := range append(outside(1), [2]int{0, 1}, [2]int{0, 2}) {
			for _, stamp := range append(stamps(), wrongStamps()...) {
				if e := Write(d, c[0], c[1], stamp, some(105, 1)); e != api.ErrNil {
					t.Error("Write", c, stamp, e)
				}
			}
			nothing(t, d, c[0], c[1], api.ErrNil)
			if n, e := Newest(d, c[0], c[1]); n != 0 || e != api.ErrNil {
				t.Error("Newest", c, n, e)
			}
		}
	}
}

func TestWriteMemory(t *testing.T) {
	d := made(t, 3)
	whole := some(300, 1)
	was := bytes.Clone(whole)
	b := whole[50:150:200]
	writes(t, d, 0, 2, 4, b)
	if !bytes.Equal(whole, was) {
		t.Error("what was handed in is changed")
	}
	copy(whole, some(300, 2))
	reads(t, d, 0, 2, 4, was[50:150])
}

// P9.2

func TestRead(t *testing.T) {
	for many := 1; many <= 4; many++ {
		for first := 0; first+many <= 6; first++ {
			for i, n := range lengths(many) {
				d := made(t, 6)
				stamp := stamps()[i%len(stamps())]
				puts(t, d, first, filled(many, stamp, some(n, i))...)
				reads(t, d, first, many, stamp, some(n, i))
				newest(t, d, first, many, stamp)
			}
		}
	}
}

func TestReadOfZeros(t *testing.T) {
	d := made(t, 2)
	nothing(t, d, 0, 1, api.ErrForm)
	nothing(t, d, 0, 2, api.ErrForm)
	newest(t, d, 0, 2, 0)
	for _, n := range []int{1, 50, 104, 212} {
		puts(t, d, 0, filled(2, 3, make([]byte, n))...)
		reads(t, d, 0, 2, 3, make([]byte, n))
	}
}

func TestReadOutside(t *testing.T) {
	d := made(t, 3)
	puts(t, d, 0, filled(3, 3, some(300, 1))...)
	for _, c := range outside(3) {
		nothing(t, d, c[0], c[1], api.ErrArg)
		if n, e := Newest(d, c[0], c[1]); n != 0 || e != api.ErrArg {
			t.Error("Newest", c, n, e)
		}
	}
}

// spoilt are sectors that are not opened, made of one of a stamp.
func spoilt(stamp uint64, load []byte) [][]byte {
	zero, head, sum, tail := make([]byte, 128), sealed(stamp, load), sealed(stamp, load), sealed(stamp, load)
	head[7]++
	sum[119] ^= 1
	tail[127]++
	body := sealed(stamp, load)
	body[60] ^= 128
	return [][]byte{zero, head, sum, tail, body, sealed(0, load), sealed(1<<62+1, load), sealed(math.MaxUint64, load)}
}

func TestReadOfWhatIsNotOpened(t *testing.T) {
	for many := 1; many <= 3; many++ {
		for i := range many {
			l := loads(many, uint32(100*many), some(100*many, 1))
			for k, b := range spoilt(5, l[i]) {
				d := made(t, 4)
				all := filled(many, 5, some(100*many, 1))
				puts(t, d, 1, all...)
				reads(t, d, 1, many, 5, some(100*many, 1))
				puts(t, d, 1+i, b)
				if s, got, e := Read(d, 1, many); s != 0 || len(got) != 0 || e != api.ErrForm {
					t.Error(many, i, k, s, len(got), e)
				}
			}
		}
	}
}

func TestReadOfStampsThatDiffer(t *testing.T) {
	for many := 2; many <= 3; many++ {
		for i := range many {
			for _, stamp := range []uint64{1, 4, 6, 1 << 62} {
				d := made(t, 4)
				all := filled(many, 5, some(100*many, 1))
				all[i] = filled(many, stamp, some(100*many, 1))[i]
				puts(t, d, 0, all...)
				nothing(t, d, 0, many, api.ErrForm)
				newest(t, d, 0, many, max(stamp, 5))
				puts(t, d, 0, filled(many, stamp, some(100*many, 1))...)
				reads(t, d, 0, many, stamp, some(100*many, 1))
			}
		}
	}
	// The sum of two stamps, or what they have in turn, is not what is asked.
	d := made(t, 3)
	l := loads(3, 300, some(300, 1))
	puts(t, d, 0, sealed(5, l[0]), sealed(6, l[1]), sealed(5, l[2]))
	nothing(t, d, 0, 3, api.ErrForm)
	nothing(t, d, 0, 2, api.ErrForm)
}

func TestReadOfLengths(t *testing.T) {
	for many := 1; many <= 3; many++ {
		room := uint32(108*many - 4)
		for _, tells := range []uint32{room + 1, room + 4, room + 5, room + 108, 1 << 24, 1 << 31, 1<<31 + 1, 1<<32 - 1} {
			for _, b := range [][]byte{nil, some(int(room), 1)} {
				d := made(t, 3)
				for i, l := range loads(many, tells, b) {
					puts(t, d, i, sealed(8, l))
				}
				nothing(t, d, 0, many, api.ErrForm)
			}
		}
		for tells := range room + 1 {
			d := made(t, 3)
			for i, l := range loads(many, tells, nil) {
				puts(t, d, i, sealed(8, l))
			}
			reads(t, d, 0, many, 8, make([]byte, tells))
		}
	}
}

func TestReadOfWhatStandsBehind(t *testing.T) {
	for many := 1; many <= 2; many++ {
		room := 108*many - 4
		for tells := 0; tells < room; tells += 13 {
			for at := tells; at < room; at++ {
				b := make([]byte, room)
				copy(b, some(tells, 1))
				b[at] = 1 << (at % 8)
				d := made(t, 2)
				for i, l := range loads(many, uint32(tells), b) {
					puts(t, d, i, sealed(8, l))
				}
				if s, got, e := Read(d, 0, many); s != 0 || len(got) != 0 || e != api.ErrForm {
					t.Fatal(many, tells, at, s, len(got), e)
				}
			}
		}
	}
}

func TestReadOfWhatWaits(t *testing.T) {
	d := made(t, 3)
	d.Fuse(3)
	writes(t, d, 0, 3, 6, some(9, 1))
	for range 5 {
		reads(t, d, 0, 3, 6, some(9, 1))
		newest(t, d, 0, 3, 6)
	}
	if d.Off() || d.Waits() != 3 {
		t.Error("to read does something", d.Off(), d.Waits())
	}
}

func TestReadMemory(t *testing.T) {
	d := made(t, 2)
	writes(t, d, 0, 2, 6, some(150, 1))
	_, a, _ := Read(d, 0, 2)
	_, b, _ := Read(d, 0, 2)
	clear(a)
	if !bytes.Equal(b, some(150, 1)) {
		t.Error("both answers share memory")
	}
	_ = append(b[:1], some(149, 4)...)
	reads(t, d, 0, 2, 6, some(150, 1))
}

func TestNewest(t *testing.T) {
	numbers := []uint64{1, 255, 256, 1 << 40, 1 << 62, 1<<62 + 1, 1 << 63, math.MaxUint64}
	for _, n := range numbers {
		for i := range 3 {
			for _, at := range []int{0, 120} {
				d := made(t, 5)
				puts(t, d, 1, sealed(1, nil), sealed(1, nil), sealed(1, nil))
				b := some(128, 1)
				clear(b[:8])
				clear(b[120:])
				binary.BigEndian.PutUint64(b[at:], n)
				puts(t, d, 1+i, b)
				newest(t, d, 1, 3, n)
				newest(t, d, 1+i, 1, n)
			}
		}
	}
}

func TestNewestOfBothEnds(t *testing.T) {
	d := made(t, 2)
	b := make([]byte, 128)
	binary.BigEndian.PutUint64(b, 12)
	binary.BigEndian.PutUint64(b[120:], 7)
	puts(t, d, 0, b, sealed(9, nil))
	newest(t, d, 0, 1, 12)
	newest(t, d, 1, 1, 9)
	newest(t, d, 0, 2, 12)
	binary.BigEndian.PutUint64(b[120:], 13)
	puts(t, d, 0, b)
	newest(t, d, 0, 2, 13)
}

func TestNewestOfTheAreaAlone(t *testing.T) {
	d := made(t, 4)
	puts(t, d, 0, sealed(100, nil), sealed(3, some(108, 1)), sealed(4, some(108, 2)), sealed(101, nil))
	newest(t, d, 1, 2, 4)
	newest(t, d, 1, 1, 3)
	newest(t, d, 0, 2, 100)
	newest(t, d, 0, 4, 101)
	// All else of a sector does not count.
	b := bytes.Repeat([]byte{255}, 128)
	clear(b[:8])
	clear(b[120:])
	puts(t, d, 1, b)
	newest(t, d, 1, 1, 0)
	newest(t, d, 1, 2, 4)
}

// P9.3

func TestWrittenIsRead(t *testing.T) {
	d := made(t, 7)
	writes(t, d, 0, 3, 10, some(300, 1))
	writes(t, d, 3, 3, 20, some(320, 2))
	writes(t, d, 6, 1, 1<<62, nil)
	reads(t, d, 0, 3, 10, some(300, 1))
	reads(t, d, 3, 3, 20, some(320, 2))
	reads(t, d, 6, 1, 1<<62, nil)
	// A shorter one over a longer one, of a lesser stamp, and of the same one.
	writes(t, d, 0, 3, 9, some(3, 3))
	reads(t, d, 0, 3, 9, some(3, 3))
	writes(t, d, 0, 3, 9, nil)
	reads(t, d, 0, 3, 9, nil)
	reads(t, d, 3, 3, 20, some(320, 2))
	// What is within another one, or over its end.
	writes(t, d, 2, 2, 30, some(200, 4))
	nothing(t, d, 0, 3, api.ErrForm)
	nothing(t, d, 3, 3, api.ErrForm)
	reads(t, d, 2, 2, 30, some(200, 4))
}

// P9.4

// befores are what may stand in an area, its newest number being below 50.
func befores(t *testing.T, many int) []*disk.Disk {
	var out []*disk.Disk
	plain := made(t, many)
	out = append(out, plain)
	old := made(t, many)
	puts(t, old, 0, filled(many, 49, some(100*many, 1))...)
	out = append(out, old)
	alike := made(t, many)
	puts(t, alike, 0, filled(many, 49, some(90*many, 2))...)
	out = append(out, alike)
	mixed := made(t, many)
	for i, b := range filled(many, 40, some(100*many, 3)) {
		if i%2 == 0 {
			b = sealed(49, some(108, i))
		}
		if i == many-1 {
			b = append(bytes.Clone(b[:64]), make([]byte, 64)...)
		}
		puts(t, mixed, i, b)
	}
	return append(out, mixed)
}

// outcome holds what is behind a crash against what was ahead of it.
func outcome(t *testing.T, was, is *disk.Disk, many int, b []byte) {
	t.Helper()
	stamp, got, e := Read(is, 0, many)
	n, _ := Newest(is, 0, many)
	if same(sectorsOf(t, was), sectorsOf(t, is)) {
		oldStamp, old, oldE := Read(was, 0, many)
		oldN, _ := Newest(was, 0, many)
		if stamp != oldStamp || !bytes.Equal(got, old) || e != oldE || n != oldN {
			t.Error("nothing changed", stamp, oldStamp, e, oldE, n, oldN)
		}
		return
	}
	if n != 50 {
		t.Error("Newest", n)
	}
	switch {
	case e == api.OK && stamp == 50 && bytes.Equal(got, b):
	case e == api.ErrForm && stamp == 0 && len(got) == 0:
	default:
		t.Error("neither that, nor none", stamp, len(got), e)
	}
}

func TestCrashes(t *testing.T) {
	b := some(60, 2)
	for many := 1; many <= 2; many++ {
		for _, was := range befores(t, many) {
			for fuse := range many + 1 {
				for c := range 17 * 17 {
					is := was.Clone()
					is.Fuse(fuse)
					e := Write(is, 0, many, 50, b)
					if (e == api.OK) != (fuse == many) || e != api.OK && e != api.ErrPower {
						t.Fatal(fuse, many, e)
					}
					is.Crash([]byte{byte(c % 17), byte(c / 17)})
					outcome(t, was, is, many, b)
				}
			}
		}
	}
}

func TestCrashesOfMany(t *testing.T) {
	b := some(500, 2)
	choices := make([]byte, 5)
	seed := uint32(1)
	for i := range 4000 {
		was := befores(t, 5)[i%4]
		is := was.Clone()
		for k := range choices {
			seed = seed*1664525 + 1013904223
			choices[k] = byte(seed>>24) % 20
			if seed>>20&3 == 0 {
				choices[k] = 16
			}
		}
		is.Fuse(i % 7)
		Write(is, 0, 5, 50, b)
		is.Crash(choices)
		outcome(t, was, is, 5, b)
	}
}

func TestAllIsKept(t *testing.T) {
	for many := 1; many <= 3; many++ {
		d := made(t, many)
		writes(t, d, 0, many, 50, some(70*many, 2))
		d.Crash([]byte{16, 255, 17})
		reads(t, d, 0, many, 50, some(70*many, 2))
		writes(t, d, 0, many, 51, some(60*many, 3))
		d.Crash(nil)
		reads(t, d, 0, many, 50, some(70*many, 2))
		newest(t, d, 0, many, 50)
		writes(t, d, 0, many, 51, some(60*many, 3))
		d.Crash([]byte{1})
		nothing(t, d, 0, many, api.ErrForm)
		newest(t, d, 0, many, 51)
	}
}
