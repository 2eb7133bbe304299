package snap

import (
	"bytes"
	"encoding/binary"
	"hash/crc32"
	"math"
	"math/rand"
	"testing"

	"rialto/api"
	"rialto/disk"
)

// greatest is the greatest stamp that may be.
const greatest = 1 << 62

// sealed is a sealed sector, made by hand.
func sealed(stamp uint64, load []byte) []byte {
	out := binary.BigEndian.AppendUint64(nil, stamp)
	out = append(out, load...)
	out = append(out, make([]byte, 116-len(out))...)
	out = binary.BigEndian.AppendUint32(out, crc32.Checksum(out, crc32.MakeTable(crc32.Castagnoli)))
	return binary.BigEndian.AppendUint64(out, stamp)
}

// filled are the sectors of an area that bytes fill, made by hand.
func filled(many int, stamp uint64, b []byte) [][]byte {
	all := append(binary.BigEndian.AppendUint32(nil, uint32(len(b))), b...)
	all = append(all, make([]byte, 108*many-len(all))...)
	var out [][]byte
	for i := range many {
		out = append(out, sealed(stamp, all[108*i:108*(i+1)]))
	}
	return out
}

// blank are sectors of bytes 0.
func blank(many int) [][]byte {
	var out [][]byte
	for range many {
		out = append(out, make([]byte, 128))
	}
	return out
}

// some are so many bytes, none of them 0.
func some(n, seed int) []byte {
	out := make([]byte, n)
	for i := range out {
		out[i] = byte((i*7+i/255+seed*13)%255) + 1
	}
	return out
}

// made is a disk that must be.
func made(t *testing.T, n int) *disk.Disk {
	t.Helper()
	d, e := disk.New(n)
	if e != api.OK {
		t.Fatal("disk.New", n, e)
	}
	return d
}

// puts puts sectors on a disk, side by side, and flushes them.
func puts(t *testing.T, d *disk.Disk, first int, all ...[]byte) {
	t.Helper()
	for i, b := range all {
		if e := d.Write(first+i, b); e != api.OK {
			t.Fatal("Write", first+i, e)
		}
	}
	if e := d.Flush(); e != api.OK {
		t.Fatal("Flush", e)
	}
}

// off takes the power from a disk.
func off(t *testing.T, d *disk.Disk) {
	t.Helper()
	d.Fuse(0)
	if d.Flush() != api.ErrPower || !d.Off() {
		t.Fatal("the power is on")
	}
}

// all is all that stands on a disk, sector behind sector.
func all(t *testing.T, d *disk.Disk) []byte {
	t.Helper()
	var out []byte
	for i := range d.Size() {
		b, e := d.Read(i)
		if e != api.OK {
			t.Fatal("Read", i, e)
		}
		out = append(out, b...)
	}
	return out
}

// stands holds what stands on a disk against what must.
func stands(t *testing.T, d *disk.Disk, want ...[][]byte) {
	t.Helper()
	var flat []byte
	for _, sectors := range want {
		flat = append(flat, bytes.Join(sectors, nil)...)
	}
	if !bytes.Equal(all(t, d), flat) {
		t.Error("what stands there is not what must")
	}
}

// counts holds the snapshot that counts against what must.
func counts(t *testing.T, d *disk.Disk, first, many, which int, stamp uint64, b []byte) {
	t.Helper()
	i, s, got, e := Last(d, first, many)
	if i != which || s != stamp || !bytes.Equal(got, b) || e != api.OK {
		t.Error("Last", i, s, len(got), e, "not", which, stamp, len(b))
	}
}

// nothing holds that Last answers with an error.
func nothing(t *testing.T, d *disk.Disk, first, many int, want api.Errno) {
	t.Helper()
	if i, s, b, e := Last(d, first, many); i != 0 || s != 0 || len(b) != 0 || e != want {
		t.Error("Last", first, many, i, s, b, e, "not", want)
	}
}

// begins makes a first snapshot, which must go well.
func begins(t *testing.T, d *disk.Disk, first, many int, b []byte) {
	t.Helper()
	if e := Begin(d, first, many, b); e != api.OK || d.Waits() != 0 {
		t.Fatal("Begin", first, many, len(b), e, d.Waits())
	}
}

// nexts makes the next snapshot, which must go well.
func nexts(t *testing.T, d *disk.Disk, first, many int, b []byte) {
	t.Helper()
	if e := Next(d, first, many, b); e != api.OK || d.Waits() != 0 {
		t.Fatal("Next", first, many, len(b), e, d.Waits())
	}
}

// makes are both calls that write.
func makes() []func(*disk.Disk, int, int, []byte) api.Errno {
	return []func(*disk.Disk, int, int, []byte) api.Errno{Next, Begin}
}

// refused holds that a call that writes answers with an error, and does nothing.
func refused(t *testing.T, d *disk.Disk, asked func(*disk.Disk, int, int, []byte) api.Errno, first, many int, b []byte, want api.Errno) {
	t.Helper()
	waits, dark := d.Waits(), d.Off()
	d.Fuse(0)
	if e := asked(d, first, many, b); e != want {
		t.Error(first, many, len(b), e, "not", want)
	}
	if d.Waits() != waits || d.Off() != dark {
		t.Error("it did something", first, many, len(b))
	}
	d.Fuse(-1)
}

// outside are areas of which not both are on a disk of so many sectors, and ones of none.
func outside(size int) [][2]int {
	half := size / 2
	out := [][2]int{
		{0, half + 1}, {size - 2*half + 1, half}, {size, 1}, {size - 1, 1}, {size - 2, 2}, {size + 1, 1}, {-1, 1}, {-1, half}, {-2, 1}, {-size, half},
		{0, size}, {-size, size}, {0, size + 1}, {math.MaxInt, 1}, {math.MaxInt - 1, 1}, {math.MinInt, 1}, {math.MinInt, math.MaxInt},
		{0, math.MaxInt}, {0, 1 << 62}, {0, 1<<62 + 1}, {0, math.MaxInt/2 + 2}, {-2, math.MaxInt}, {math.MaxInt, math.MaxInt},
		{size, 1 << 62}, {-1 << 62, 1 << 62}, {math.MinInt, math.MinInt},
	}
	for _, first := range []int{0, 1, size - 1, size, -1, math.MinInt, math.MaxInt} {
		for _, many := range []int{0, -1, -half, -size, math.MinInt, math.MinInt / 2} {
			out = append(out, [2]int{first, many})
		}
	}
	return out
}

func TestWrongAreas(t *testing.T) {
	for _, size := range []int{1, 2, 4, 7} {
		d := made(t, size)
		if size > 1 {
			begins(t, d, 0, size/2, []byte("lamp"))
		}
		for range 2 { // of no power likewise
			for _, c := range outside(size) {
				nothing(t, d, c[0], c[1], api.ErrArg)
				for _, f := range makes() {
					for _, n := range []int{0, 104, 105, 2000} {
						refused(t, d, f, c[0], c[1], some(n, 1), api.ErrArg)
					}
				}
			}
			off(t, d)
		}
	}
}

func TestNoDisk(t *testing.T) {
	for _, d := range []*disk.Disk{nil, {}, new(disk.Disk)} {
		for _, c := range append(outside(4), [2]int{0, 1}, [2]int{0, 2}) {
			nothing(t, d, c[0], c[1], api.ErrNil)
			for _, f := range makes() {
				for _, n := range []int{0, 104, 105, 2000} {
					if e := f(d, c[0], c[1], some(n, 1)); e != api.ErrNil {
						t.Error(c, n, e)
					}
				}
			}
		}
	}
}

func TestPowerIsOff(t *testing.T) {
	d := made(t, 8)
	begins(t, d, 0, 2, []byte("lamp"))
	off(t, d)
	for _, c := range [][2]int{{0, 1}, {0, 2}, {4, 2}, {0, 4}, {6, 1}} {
		nothing(t, d, c[0], c[1], api.ErrPower)
		for _, f := range makes() {
			for _, n := range []int{0, 104, 105, 2000} {
				refused(t, d, f, c[0], c[1], some(n, 1), api.ErrPower)
			}
		}
	}
	d.Crash(nil)
	counts(t, d, 0, 2, 0, 1, []byte("lamp"))
}

// P11.1

func TestLast(t *testing.T) {
	for many := 1; many <= 3; many++ {
		for first := range 3 {
			for _, c := range []struct {
				a, b  uint64
				which int
			}{
				{1, 2, 1}, {2, 1, 0}, {7, 8, 1}, {8, 7, 0}, {1, 100, 1}, {100, 1, 0}, {255, 256, 1}, {256, 255, 0}, {1 << 32, 1, 0}, {1, 1 << 32, 1},
				{greatest, greatest - 1, 0}, {greatest - 1, greatest, 1}, {greatest, 1, 0}, {1, greatest, 1},
				{1, 1, 0}, {9, 9, 0}, {greatest, greatest, 0},
			} {
				d := made(t, 10)
				puts(t, d, first, filled(many, c.a, some(50*many, 1))...)
				puts(t, d, first+many, filled(many, c.b, some(60*many, 2))...)
				stamp, b := c.a, some(50*many, 1)
				if c.which == 1 {
					stamp, b = c.b, some(60*many, 2)
				}
				d.Fuse(0)
				counts(t, d, first, many, c.which, stamp, b)
				counts(t, d, first, many, c.which, stamp, b)
				if d.Off() || d.Waits() != 0 {
					t.Error("something is written")
				}
			}
		}
	}
}

// unread are sectors of an area of a stamp that can't be read.
func unread(many int, stamp uint64, b []byte) [][][]byte {
	good := filled(many, stamp, b)
	tail, load, other := filled(many, stamp, b), filled(many, stamp, b), filled(many, stamp, b)
	copy(tail[many-1][120:], make([]byte, 8))
	load[0][60] ^= 4
	other[many-1] = filled(many, stamp+1, b)[many-1]
	long := filled(many, stamp, b)
	long[0] = sealed(stamp, []byte{255, 255, 255, 255})
	out := [][][]byte{blank(many), tail, load, long}
	if many > 1 {
		out = append(out, other, append(blank(1), good[1:]...))
	}
	return out
}

func TestLastOfOne(t *testing.T) {
	for many := 1; many <= 3; many++ {
		for _, bad := range unread(many, 9, some(104, 1)) {
			for stamp := uint64(8); stamp <= 10; stamp++ {
				d := made(t, 2*many)
				puts(t, d, 0, bad...)
				puts(t, d, many, filled(many, stamp, some(30*many, 2))...)
				counts(t, d, 0, many, 1, stamp, some(30*many, 2))
				puts(t, d, 0, filled(many, stamp, some(30*many, 2))...)
				puts(t, d, many, bad...)
				counts(t, d, 0, many, 0, stamp, some(30*many, 2))
				puts(t, d, 0, bad...)
				nothing(t, d, 0, many, api.ErrForm)
			}
		}
	}
}

func TestLastOfNone(t *testing.T) {
	d := made(t, 16384)
	for many := 1; many <= 8192; many *= 2 {
		nothing(t, d, 0, many, api.ErrForm)
	}
	// What stands elsewhere does not count.
	puts(t, d, 5, filled(1, 3, []byte("lamp"))...)
	nothing(t, d, 3, 1, api.ErrForm)
	nothing(t, d, 6, 1, api.ErrForm)
	counts(t, d, 4, 1, 1, 3, []byte("lamp"))
	counts(t, d, 5, 1, 0, 3, []byte("lamp"))
}

func TestLastMemory(t *testing.T) {
	d := made(t, 4)
	begins(t, d, 0, 2, some(150, 1))
	_, _, a, _ := Last(d, 0, 2)
	_, _, b, _ := Last(d, 0, 2)
	clear(a)
	if !bytes.Equal(b, some(150, 1)) {
		t.Error("answers share memory")
	}
	counts(t, d, 0, 2, 0, 1, some(150, 1))
}

func TestExample(t *testing.T) {
	d := made(t, 2)
	begins(t, d, 0, 1, []byte("a"))
	counts(t, d, 0, 1, 0, 1, []byte("a"))
	nexts(t, d, 0, 1, []byte("b"))
	counts(t, d, 0, 1, 1, 2, []byte("b"))
	stands(t, d, filled(1, 1, []byte("a")), filled(1, 2, []byte("b")))
}

// lengths are lengths of bytes that have room in so many sectors.
func lengths(many int) []int {
	var out []int
	for _, n := range []int{0, 1, 103, 104, 105, 211, 212, 213, 319} {
		if n < 108*many-4 {
			out = append(out, n)
		}
	}
	return append(out, 108*many-4)
}

func TestNext(t *testing.T) {
	for many := 1; many <= 3; many++ {
		for first := range 3 {
			d := made(t, 10)
			ahead := [][]byte{sealed(90, some(108, 1)), sealed(91, some(108, 2))}[:first]
			behind := [][]byte{}
			for i := first + 2*many; i < 10; i++ {
				behind = append(behind, sealed(uint64(90+i), some(108, i)))
			}
			puts(t, d, 0, ahead...)
			puts(t, d, first+2*many, behind...)
			begins(t, d, first, many, []byte("lamp"))
			areas := [2][][]byte{filled(many, 1, []byte("lamp")), blank(many)}
			for i, n := range lengths(many) {
				stamp := uint64(i + 2)
				nexts(t, d, first, many, some(n, i))
				areas[1-i%2] = filled(many, stamp, some(n, i))
				counts(t, d, first, many, 1-i%2, stamp, some(n, i))
				stands(t, d, ahead, areas[0], areas[1], behind)
			}
		}
	}
}

func TestNextOfTheNewest(t *testing.T) {
	good := func(stamp uint64) []byte { return filled(1, stamp, []byte("lamp"))[0] }
	torn := func(head, tail uint64) []byte {
		b := sealed(head, some(108, 3))
		binary.BigEndian.PutUint64(b[120:], tail)
		return b
	}
	// Of one that is the same at both ends another sum.
	turned := good(9)
	turned[50] ^= 1
	for _, c := range []struct {
		a, b []byte
		to   int
		next uint64
	}{
		{good(5), make([]byte, 128), 1, 6},
		{make([]byte, 128), good(5), 0, 6},
		{good(5), good(5), 1, 6},
		{good(5), good(4), 1, 6},
		{good(5), good(900), 0, 901},
		{good(5), torn(7, 4), 1, 8},
		{good(5), torn(4, 7), 1, 8},
		{good(5), torn(2, 3), 1, 6},
		{torn(9, 1), good(5), 0, 10},
		{torn(1, 9), good(5), 0, 10},
		{turned, good(5), 0, 10},
		{good(5), sealed(40, []byte{1, 1, 1, 1}), 1, 41},
		{good(greatest - 1), good(3), 1, greatest},
		{good(3), torn(greatest-1, 0), 1, greatest},
	} {
		d := made(t, 2)
		puts(t, d, 0, c.a, c.b)
		nexts(t, d, 0, 1, []byte("rug"))
		want := [2][]byte{c.a, c.b}
		want[c.to] = filled(1, c.next, []byte("rug"))[0]
		stands(t, d, want[:])
		counts(t, d, 0, 1, c.to, c.next, []byte("rug"))
	}
}

func TestNextOfTheNewestOfManySectors(t *testing.T) {
	for at := range 6 {
		for _, end := range []int{0, 120} {
			d := made(t, 6)
			sectors := append(filled(3, 4, some(200, 1)), filled(3, 5, some(200, 2))...)
			puts(t, d, 0, sectors...)
			bad := bytes.Clone(sectors[at])
			binary.BigEndian.PutUint64(bad[end:], 77)
			puts(t, d, at, bad)
			spare := 0
			if at >= 3 {
				spare = 1
			}
			nexts(t, d, 0, 3, []byte("rug"))
			counts(t, d, 0, 3, spare, 78, []byte("rug"))
		}
	}
}

func TestNextIsOver(t *testing.T) {
	for _, newest := range []uint64{greatest, greatest + 1, 1 << 63, math.MaxUint64 - 1, math.MaxUint64} {
		for _, at := range []int{1, 2} {
			for _, end := range []int{0, 120} {
				d := made(t, 4)
				b := make([]byte, 128)
				binary.BigEndian.PutUint64(b[end:], newest)
				puts(t, d, 0, b, b, b, b)
				puts(t, d, at, filled(1, 3, []byte("lamp"))...)
				refused(t, d, Next, 1, 1, nil, api.ErrOver)
				refused(t, d, Next, 1, 1, some(104, 1), api.ErrOver)
				refused(t, d, Next, 1, 1, some(105, 1), api.ErrLong)
				counts(t, d, 1, 1, at-1, 3, []byte("lamp"))
			}
		}
	}
	d := made(t, 2)
	puts(t, d, 0, filled(1, greatest, []byte("lamp"))...)
	refused(t, d, Next, 0, 1, nil, api.ErrOver)
	puts(t, d, 0, filled(1, greatest-1, []byte("lamp"))...)
	nexts(t, d, 0, 1, nil)
	refused(t, d, Next, 0, 1, nil, api.ErrOver)
	counts(t, d, 0, 1, 1, greatest, nil)
}

func TestNextOfNone(t *testing.T) {
	for many := 1; many <= 3; many++ {
		for _, bad := range unread(many, greatest-1, some(104, 1)) {
			d := made(t, 2*many)
			puts(t, d, 0, bad...)
			puts(t, d, many, bad...)
			refused(t, d, Next, 0, many, some(108*many-4, 1), api.ErrForm)
			refused(t, d, Next, 0, many, some(108*many-3, 1), api.ErrLong)
			stands(t, d, bad, bad)
		}
		d := made(t, 2*many)
		b := sealed(math.MaxUint64, nil)
		for i := range 2 * many {
			puts(t, d, i, b)
		}
		refused(t, d, Next, 0, many, nil, api.ErrForm)
	}
}

func TestTooLong(t *testing.T) {
	for many := 1; many <= 3; many++ {
		d := made(t, 2*many+1)
		for _, n := range []int{108*many - 3, 108*many - 2, 108 * many, 108*many + 1, 216*many - 4, 5000} {
			for _, f := range makes() {
				refused(t, d, f, 1, many, some(n, 1), api.ErrLong)
			}
		}
		begins(t, d, 1, many, some(108*many-4, 1))
		for _, n := range []int{108*many - 3, 108*many - 2, 108 * many, 108*many + 1, 216*many - 4, 5000} {
			for _, f := range makes() {
				refused(t, d, f, 1, many, some(n, 2), api.ErrLong)
			}
		}
		counts(t, d, 1, many, 0, 1, some(108*many-4, 1))
	}
}

func TestPowerGoesInNext(t *testing.T) {
	for many := 1; many <= 4; many++ {
		for n := range many + 1 {
			d := made(t, 2*many)
			begins(t, d, 0, many, some(100*many, 1))
			d.Fuse(n)
			if e := Next(d, 0, many, some(90*many, 2)); e != api.ErrPower || !d.Off() || d.Waits() != min(n+1, many) {
				t.Error(many, n, e, d.Off(), d.Waits())
			}
			d.Crash(bytes.Repeat([]byte{16}, many))
			spare := blank(many)
			copy(spare, filled(many, 2, some(90*many, 2))[:min(n+1, many)])
			stands(t, d, filled(many, 1, some(100*many, 1)), spare)
		}
		d := made(t, 2*many)
		begins(t, d, 0, many, nil)
		d.Fuse(many + 1)
		nexts(t, d, 0, many, nil)
		if d.Off() || d.Flush() != api.ErrPower {
			t.Error("not just many writes and a flush are done", many)
		}
	}
}

func TestMemory(t *testing.T) {
	d := made(t, 2)
	whole := some(300, 1)
	was := bytes.Clone(whole)
	b := whole[50:90:200]
	begins(t, d, 0, 1, b)
	nexts(t, d, 0, 1, b)
	if !bytes.Equal(whole, was) {
		t.Error("what was handed in is changed")
	}
	clear(whole)
	counts(t, d, 0, 1, 1, 2, was[50:90])
}

func TestTheGreatest(t *testing.T) {
	d := made(t, 16384)
	b := some(108*8192-4, 1)
	begins(t, d, 0, 8192, b)
	counts(t, d, 0, 8192, 0, 1, b)
	nexts(t, d, 0, 8192, b[1:])
	counts(t, d, 0, 8192, 1, 2, b[1:])
}

// P11.2

func TestBegin(t *testing.T) {
	for many := 1; many <= 3; many++ {
		for first := range 3 {
			for i, n := range lengths(many) {
				d := made(t, 10)
				var was [][]byte
				for k := range 10 {
					was = append(was, sealed(greatest-uint64(k), some(108, k)))
				}
				puts(t, d, 0, was...)
				begins(t, d, first, many, some(n, i))
				stands(t, d, was[:first], filled(many, 1, some(n, i)), blank(many), was[first+2*many:])
				counts(t, d, first, many, 0, 1, some(n, i))
				// Also where a greater snapshot is, and another one was begun.
				nexts(t, d, first, many, nil)
				nexts(t, d, first, many, nil)
				begins(t, d, first, many, some(n, 9))
				stands(t, d, was[:first], filled(many, 1, some(n, 9)), blank(many), was[first+2*many:])
			}
		}
	}
}

func TestPowerGoesInBegin(t *testing.T) {
	for many := 1; many <= 4; many++ {
		old := [2][][]byte{filled(many, 8, some(70*many, 1)), filled(many, 9, some(80*many, 2))}
		for n := range 2*many + 2 {
			d := made(t, 2*many)
			puts(t, d, 0, old[0]...)
			puts(t, d, many, old[1]...)
			d.Fuse(n)
			if e := Begin(d, 0, many, some(90*many, 3)); e != api.ErrPower || !d.Off() {
				t.Error(many, n, e, d.Off())
			}
			a, b := append([][]byte{}, old[0]...), append([][]byte{}, old[1]...)
			waits := min(n+1, many)
			if n > many { // the second area is flushed then
				waits = min(n-many, many)
				copy(a, filled(many, 1, some(90*many, 3))[:waits])
				copy(b, blank(many))
			} else {
				copy(b, blank(many)[:waits])
			}
			if d.Waits() != waits {
				t.Error("what waits", many, n, d.Waits(), waits)
			}
			d.Crash(bytes.Repeat([]byte{16}, 2*many))
			stands(t, d, a, b)
		}
		d := made(t, 2*many)
		d.Fuse(2*many + 2)
		begins(t, d, 0, many, nil)
		if d.Off() || d.Flush() != api.ErrPower {
			t.Error("not just twice many writes and two flushes are done", many)
		}
	}
}

// P11.3

// crashed does Next with a fuse and a crash that keeps what is chosen, and tells whether it went well, and which of two texts counts then: 0 what counted, 1 what was under way.
func crashed(t *testing.T, d *disk.Disk, many, fuse int, choices, was, b []byte) (bool, int) {
	t.Helper()
	d.Fuse(fuse)
	e := Next(d, 0, many, b)
	if (e == api.OK) != (fuse > many) || e != api.OK && e != api.ErrPower {
		t.Fatal(many, fuse, e)
	}
	d.Crash(choices)
	_, _, got, f := Last(d, 0, many)
	switch {
	case f == api.OK && bytes.Equal(got, b):
		return e == api.OK, 1
	case f == api.OK && e != api.OK && bytes.Equal(got, was):
		return false, 0
	}
	t.Fatal("behind a crash", many, fuse, choices, len(got), e, f)
	return false, 0
}

func TestCrashesInNext(t *testing.T) {
	for many := 1; many <= 2; many++ {
		start := made(t, 2*many)
		begins(t, start, 0, many, some(60*many, 0))
		was := some(60*many, 0)
		var seen [2]int
		for step := 1; step <= 4; step++ {
			b := some(60*many, step)
			for fuse := range many + 2 {
				for c := range 17 * 17 {
					d := start.Clone()
					choices := []byte{byte(c % 17), byte(c / 17)}
					_, i := crashed(t, d, many, fuse, choices, was, b)
					seen[i]++
					// And again: behind a crash in another one.
					now := [2][]byte{was, b}[i]
					for again := range many + 2 {
						crashed(t, d.Clone(), many, again, choices[:1+c%2], now, some(60*many, 9))
					}
				}
			}
			nexts(t, start, 0, many, b)
			was = b
		}
		if seen[0] == 0 || seen[1] == 0 {
			t.Error("not all came to be seen", many, seen)
		}
	}
}

func TestCrashesAgainAndAgain(t *testing.T) {
	chance := rand.New(rand.NewSource(7))
	for many := 1; many <= 4; many++ {
		d := made(t, 2*many)
		was := some(40*many, 0)
		begins(t, d, 0, many, was)
		var seen [2]int
		well := 0
		for step := 1; step <= 2000; step++ {
			b := some(40*many+step%5, step)
			choices := make([]byte, many)
			for i := range choices {
				choices[i] = byte(chance.Intn(40))
			}
			ok, i := crashed(t, d, many, chance.Intn(many+2), choices, was, b)
			if ok {
				well++
			}
			seen[i]++
			was = [2][]byte{was, b}[i]
			counted := all(t, d)
			if _, _, again, e := Last(d, 0, many); e != api.OK || !bytes.Equal(again, was) || !bytes.Equal(all(t, d), counted) {
				t.Fatal("it does not stay", e)
			}
		}
		if seen[0] == 0 || seen[1] <= well || well == 0 {
			t.Error("not all came to be seen", many, seen, well)
		}
	}
}
