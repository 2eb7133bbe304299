package journal

import (
	"bytes"
	"encoding/binary"
	"hash/crc32"
	"math"
	"testing"

	"rialto/api"
	"rialto/disk"
)

// greatest is the greatest stamp that may be.
const greatest = 1 << 62

// sealed is a sealed sector, made by hand.
func sealed(stamp uint64, load []byte) []byte {
	out := binary.BigEndian.AppendUint64(nil, stamp)
	out = append(out, load...)
	out = append(out, make([]byte, 116-len(out))...)
	out = binary.BigEndian.AppendUint32(out, crc32.Checksum(out, crc32.MakeTable(crc32.Castagnoli)))
	return binary.BigEndian.AppendUint64(out, stamp)
}

// place is the sectors of a place, made by hand: sealed from a stamp on, telling so many bytes, and having these.
func place(each int, from uint64, tells uint32, b []byte) [][]byte {
	all := append(binary.BigEndian.AppendUint32(nil, tells), b...)
	all = append(all, make([]byte, 108*each-len(all))...)
	var out [][]byte
	for k := range each {
		out = append(out, sealed(from+uint64(k), all[108*k:108*(k+1)]))
	}
	return out
}

// record is the sectors of a place, of a record.
func record(each int, from uint64, b []byte) [][]byte { return place(each, from, uint32(len(b)), b) }

// some are so many bytes, none of them 0.
func some(n, seed int) []byte {
	out := make([]byte, n)
	for i := range out {
		out[i] = byte((i*7+i/255+seed*13)%255) + 1
	}
	return out
}

// made is a disk that must be.
func made(t *testing.T, n int) *disk.Disk {
	t.Helper()
	d, e := disk.New(n)
	if e != api.OK {
		t.Fatal("disk.New", n, e)
	}
	return d
}

// puts puts sectors on a disk, side by side, and flushes them.
func puts(t *testing.T, d *disk.Disk, first int, all ...[]byte) {
	t.Helper()
	for i, b := range all {
		if e := d.Write(first+i, b); e != api.OK {
			t.Fatal("Write", first+i, e)
		}
	}
	if e := d.Flush(); e != api.OK {
		t.Fatal("Flush", e)
	}
}

// begins is a journal that must be.
func begins(t *testing.T, d *disk.Disk, first, places, each int, base uint64) *Journal {
	t.Helper()
	j, e := New(d, first, places, each, base)
	if e != api.OK || j == nil {
		t.Fatal("New", first, places, each, base, e)
	}
	return j
}

// appends appends a record, which must go well.
func appends(t *testing.T, j *Journal, b []byte) {
	t.Helper()
	left := j.Left()
	if e := j.Append(b); e != api.OK || j.Left() != left-1 {
		t.Fatal("Append", len(b), e, left, j.Left())
	}
}

// equal tells whether two lists have the same records.
func equal(a, b [][]byte) bool {
	if len(a) != len(b) {
		return false
	}
	for i := range a {
		if !bytes.Equal(a[i], b[i]) {
			return false
		}
	}
	return true
}

// says holds what a journal says against what must be.
func says(t *testing.T, d *disk.Disk, first, places, each int, base uint64, want ...[]byte) {
	t.Helper()
	got, e := Scan(d, first, places, each, base)
	if e != api.OK || !equal(got, want) {
		t.Error("Scan", first, places, each, base, e, len(got), "records, not", len(want))
	}
}

// sectorsOf is all that stands on a disk.
func sectorsOf(t *testing.T, d *disk.Disk) [][]byte {
	t.Helper()
	var out [][]byte
	for i := range d.Size() {
		b, e := d.Read(i)
		if e != api.OK {
			t.Fatal("Read", i, e)
		}
		out = append(out, b)
	}
	return out
}

// off takes the power from a disk.
func off(t *testing.T, d *disk.Disk) {
	t.Helper()
	d.Fuse(0)
	if d.Flush() != api.ErrPower || !d.Off() {
		t.Fatal("the power is on")
	}
}

// asked is what New and Scan are asked of.
type asked struct {
	first, places, each int
	base                uint64
}

// wrong are journals that may not be on a disk of so many sectors.
func wrong(size int) []asked {
	var out []asked
	for _, n := range []int{math.MinInt, -1, 0, 17, 18, 1 << 32, math.MaxInt} {
		out = append(out, asked{0, n, 1, 1})
	}
	for _, n := range []int{math.MinInt, -1, 0, 16385, 1 << 32, math.MaxInt} {
		out = append(out, asked{0, 1, n, 1}, asked{0, 16, n, 1})
	}
	// Products that are right, or that leave their type, where the parts are wrong.
	out = append(out, asked{0, -1, -1, 1}, asked{0, 1 << 32, 1 << 32, 1}, asked{0, 1 << 62, 4, 1}, asked{0, 4, 1 << 62, 1}, asked{0, math.MinInt, math.MinInt, 1})
	for _, c := range [][3]int{
		{-1, 1, 1}, {size, 1, 1}, {size - 1, 2, 1}, {size - 1, 1, 2}, {-1, 2, 1}, {-1, 1, size}, {-1, 1, size + 1}, {-1, 2, size},
		{0, 1, size + 1}, {1, 1, size}, {size + 1, 1, 1}, {math.MaxInt, 1, 1}, {math.MaxInt, 16, 16384}, {math.MaxInt - 1, 1, 2},
		{math.MinInt, 1, 1}, {math.MinInt, 16, 16384}, {0, 16, size/16 + 1}, {0, 16, 16384}, {-size, 1, size},
	} {
		out = append(out, asked{c[0], c[1], c[2], 1})
	}
	for _, base := range []uint64{0, greatest, greatest + 1, 1 << 63, math.MaxUint64 - 1, math.MaxUint64} {
		out = append(out, asked{0, 1, 1, base}, asked{size - 1, 1, 1, base}, asked{0, 2, 2, base})
	}
	return append(out, asked{0, 1, 2, greatest - 1}, asked{0, 2, 1, greatest - 1}, asked{0, 2, 2, greatest - 3})
}

// never holds that New and Scan answer with an error, and write nothing.
func never(t *testing.T, d *disk.Disk, c asked, want api.Errno) {
	t.Helper()
	if j, e := New(d, c.first, c.places, c.each, c.base); j != nil || e != want {
		t.Error("New", c, j, e, "not", want)
	}
	if said, e := Scan(d, c.first, c.places, c.each, c.base); len(said) != 0 || e != want {
		t.Error("Scan", c, said, e, "not", want)
	}
}

// P10.1

func TestNew(t *testing.T) {
	d := made(t, 64)
	was := sectorsOf(t, d)
	d.Fuse(0)
	for _, c := range []asked{
		{0, 1, 1, 1}, {63, 1, 1, 1}, {0, 16, 4, 1}, {0, 1, 64, 1}, {32, 16, 2, 7}, {48, 16, 1, 1 << 40}, {1, 1, 63, 1}, {1, 7, 9, 5},
		{0, 1, 1, greatest - 1}, {0, 2, 2, greatest - 4}, {0, 16, 4, greatest - 64}, {63, 1, 1, greatest - 2},
	} {
		j := begins(t, d, c.first, c.places, c.each, c.base)
		if j.Left() != c.places || j.Next() != c.base+uint64(c.places*c.each) {
			t.Error(c, j.Left(), j.Next())
		}
		says(t, d, c.first, c.places, c.each, c.base)
	}
	if d.Off() || d.Waits() != 0 || !bytes.Equal(bytes.Join(was, nil), bytes.Join(sectorsOf(t, d), nil)) {
		t.Error("something is written")
	}
	whole := made(t, 16384)
	begins(t, whole, 0, 1, 16384, 1)
	begins(t, whole, 0, 16, 1024, 1)
}

func TestWrongJournals(t *testing.T) {
	for _, size := range []int{4, 16, 100} {
		d := made(t, size)
		for _, c := range wrong(size) {
			never(t, d, c, api.ErrArg)
		}
		off(t, d)
		for _, c := range wrong(size) {
			never(t, d, c, api.ErrArg)
		}
		never(t, d, asked{0, 1, 1, 1}, api.ErrPower)
		never(t, d, asked{size - 1, 1, 1, greatest - 1}, api.ErrPower)
		never(t, d, asked{0, 2, 2, 9}, api.ErrPower)
	}
	for _, d := range []*disk.Disk{nil, {}, new(disk.Disk)} {
		for _, c := range append(wrong(4), asked{0, 1, 1, 1}, asked{0, 2, 2, 9}) {
			never(t, d, c, api.ErrNil)
		}
	}
}

func TestExample(t *testing.T) {
	d := made(t, 1)
	j := begins(t, d, 0, 1, 1, 5)
	if j.Next() != 6 {
		t.Error("Next", j.Next())
	}
	appends(t, j, []byte("lamp"))
	if b, _ := d.Read(0); !bytes.Equal(b, sealed(5, []byte("\x00\x00\x00\x04lamp"))) {
		t.Error("what stands there", b)
	}
	if j.Next() != 6 || j.Left() != 0 {
		t.Error("behind it", j.Next(), j.Left())
	}
}

// lengths are lengths of records that have room in so many sectors.
func lengths(each int) []int {
	var out []int
	for _, n := range []int{0, 1, 2, 103, 104, 105, 108, 112, 211, 212, 213, 255, 256, 257, 319} {
		if n < 108*each-4 {
			out = append(out, n)
		}
	}
	return append(out, 108*each-4)
}

func TestAppend(t *testing.T) {
	for each := 1; each <= 3; each++ {
		for places := 1; places <= 4; places++ {
			for i, base := range []uint64{1, 2, 200, 1 << 32, greatest - uint64(places*each)} {
				d := made(t, 14)
				want := sectorsOf(t, d)
				for k := range want {
					want[k] = some(128, k)
				}
				puts(t, d, 0, want...)
				j := begins(t, d, i%3, places, each, base)
				for p := range places {
					n := lengths(each)[(i+p*3)%len(lengths(each))]
					appends(t, j, some(n, p))
					copy(want[i%3+p*each:], record(each, base+uint64(p*each), some(n, p)))
					if !bytes.Equal(bytes.Join(want, nil), bytes.Join(sectorsOf(t, d), nil)) {
						t.Error("what stands there", each, places, base, p, n)
					}
					if d.Waits() != 0 || j.Left() != places-p-1 || j.Next() != base+uint64(places*each) {
						t.Error("behind it", d.Waits(), j.Left(), j.Next())
					}
				}
			}
		}
	}
}

func TestLengths(t *testing.T) {
	for each := 1; each <= 3; each++ {
		for _, n := range lengths(each) {
			d := made(t, 9)
			j := begins(t, d, 0, 3, each, 8)
			appends(t, j, some(n, 1))
			appends(t, j, nil)
			appends(t, j, make([]byte, n))
			says(t, d, 0, 3, each, 8, some(n, 1), nil, make([]byte, n))
		}
	}
}

// unchanged holds that an Append answers with an error, and does nothing.
func unchanged(t *testing.T, d *disk.Disk, j *Journal, b []byte, want api.Errno) {
	t.Helper()
	left, next, waits := j.Left(), j.Next(), d.Waits()
	d.Fuse(0)
	if e := j.Append(b); e != want || d.Off() {
		t.Error("Append", len(b), e, "not", want, d.Off())
	}
	d.Fuse(-1)
	if j.Left() != left || j.Next() != next || d.Waits() != waits {
		t.Error("it did something", j.Left(), j.Next(), d.Waits())
	}
}

func TestTooLong(t *testing.T) {
	for each := 1; each <= 3; each++ {
		d := made(t, 9)
		j := begins(t, d, 1, 2, each, 8)
		for range 3 {
			for _, n := range []int{108*each - 3, 108*each - 2, 108 * each, 108*each + 1, 1000} {
				unchanged(t, d, j, some(n, 1), api.ErrLong)
			}
			if j.Left() > 0 {
				appends(t, j, some(108*each-4, j.Left()))
			}
		}
		for _, n := range lengths(each) {
			unchanged(t, d, j, some(n, 1), api.ErrFull)
		}
		says(t, d, 1, 2, each, 8, some(108*each-4, 2), some(108*each-4, 1))
	}
}

func TestAllPlaces(t *testing.T) {
	d := made(t, 40)
	j := begins(t, d, 3, 16, 2, 30)
	var want [][]byte
	for p := range 16 {
		appends(t, j, some(p*13, p))
		want = append(want, some(p*13, p))
		says(t, d, 3, 16, 2, 30, want...)
	}
	unchanged(t, d, j, nil, api.ErrFull)
	unchanged(t, d, j, some(212, 1), api.ErrFull)
	unchanged(t, d, j, some(213, 1), api.ErrLong)
	says(t, d, 3, 16, 2, 30, want...)
}

func TestOneGreatPlace(t *testing.T) {
	d := made(t, 16384)
	j := begins(t, d, 0, 1, 16384, 1)
	b := some(108*16384-4, 3)
	unchanged(t, d, j, append(b, 1), api.ErrLong)
	appends(t, j, b)
	says(t, d, 0, 1, 16384, 1, b)
}

func TestPowerIsOff(t *testing.T) {
	d := made(t, 4)
	j := begins(t, d, 0, 2, 2, 9)
	for p := range 2 {
		off(t, d)
		for _, n := range lengths(2) {
			if e := j.Append(some(n, 1)); e != api.ErrPower || j.Left() != 2-p {
				t.Error(n, e, j.Left())
			}
		}
		if e := j.Append(some(213, 1)); e != api.ErrLong {
			t.Error("what is too long", e)
		}
		if d.Waits() != 0 {
			t.Error("something is written")
		}
		d.Crash(nil)
		appends(t, j, some(200, p))
	}
	off(t, d)
	if e := j.Append(nil); e != api.ErrFull {
		t.Error("what is full", e)
	}
	if j.Left() != 0 || j.Next() != 13 {
		t.Error("what is asked of no disk", j.Left(), j.Next())
	}
	d.Crash(nil)
	says(t, d, 0, 2, 2, 9, some(200, 0), some(200, 1))
}

func TestPowerGoesOnTheWay(t *testing.T) {
	for each := 1; each <= 4; each++ {
		for n := range each + 1 {
			d := made(t, 10)
			j := begins(t, d, 1, 2, each, 50)
			appends(t, j, some(100*each, 1))
			was := sectorsOf(t, d)
			d.Fuse(n)
			if e := j.Append(some(90*each, 2)); e != api.ErrPower || !d.Off() || d.Waits() != min(n+1, each) {
				t.Error(each, n, e, d.Off(), d.Waits())
			}
			if j.Left() != 1 {
				t.Error("the place is used", each, n)
			}
			d.Crash(bytes.Repeat([]byte{16}, each))
			copy(was[1+each:], record(each, 50+uint64(each), some(90*each, 2))[:min(n+1, each)])
			if !bytes.Equal(bytes.Join(was, nil), bytes.Join(sectorsOf(t, d), nil)) {
				t.Error("the sectors do not rise", each, n)
			}
			// The same place is there for the next one.
			appends(t, j, some(3, 3))
			says(t, d, 1, 2, each, 50, some(100*each, 1), some(3, 3))
		}
		d := made(t, 10)
		j := begins(t, d, 1, 2, each, 50)
		d.Fuse(each + 1)
		appends(t, j, nil)
		if d.Off() || d.Waits() != 0 {
			t.Error("more is done than to write and to flush", each)
		}
		if d.Flush() != api.ErrPower {
			t.Error("less is done than to write and to flush", each)
		}
	}
}

func TestNoJournal(t *testing.T) {
	for _, j := range []*Journal{nil, {}, new(Journal)} {
		for _, b := range [][]byte{nil, {}, some(1, 1), some(104, 1), some(105, 1), some(5000, 1)} {
			if e := j.Append(b); e != api.ErrNil {
				t.Error("Append", len(b), e)
			}
		}
		if j.Left() != 0 || j.Next() != 0 {
			t.Error(j.Left(), j.Next())
		}
	}
}

func TestDiskIsAnotherOne(t *testing.T) {
	// Whoever holds the disk may put another one in its place.
	d := made(t, 4)
	j := begins(t, d, 2, 2, 1, 9)
	*d = *made(t, 2)
	if e := j.Append(some(9, 1)); e != api.ErrDisk || j.Left() != 2 {
		t.Error("a lesser one", e, j.Left())
	}
	*d = disk.Disk{}
	if e := j.Append(some(9, 1)); e != api.ErrNil || j.Left() != 2 || j.Next() != 11 {
		t.Error("none", e, j.Left(), j.Next())
	}
}

func TestAppendMemory(t *testing.T) {
	d := made(t, 3)
	j := begins(t, d, 0, 3, 1, 4)
	whole := some(300, 1)
	was := bytes.Clone(whole)
	b := whole[50:90:200]
	appends(t, j, b)
	if !bytes.Equal(whole, was) {
		t.Error("what was handed in is changed")
	}
	copy(whole, some(300, 2))
	appends(t, j, nil)
	says(t, d, 0, 3, 1, 4, was[50:90], nil)
}

func TestTwoJournals(t *testing.T) {
	d := made(t, 6)
	a := begins(t, d, 0, 3, 1, 4)
	b := begins(t, d, 3, 1, 3, 4)
	appends(t, a, some(10, 1))
	appends(t, b, some(300, 2))
	appends(t, a, some(20, 3))
	if a.Left() != 1 || b.Left() != 0 {
		t.Error(a.Left(), b.Left())
	}
	says(t, d, 0, 3, 1, 4, some(10, 1), some(20, 3))
	says(t, d, 3, 1, 3, 4, some(300, 2))
	// A new one at the same sectors begins at its first place.
	c := begins(t, d, 0, 3, 1, 7)
	says(t, d, 0, 3, 1, 7)
	appends(t, c, some(30, 4))
	says(t, d, 0, 3, 1, 7, some(30, 4))
	says(t, d, 0, 3, 1, 4)
	if a.Left() != 1 || c.Left() != 2 {
		t.Error(a.Left(), c.Left())
	}
}

// P10.2

func TestScan(t *testing.T) {
	for each := 1; each <= 3; each++ {
		for places := 1; places <= 4; places++ {
			for used := range places + 1 {
				d := made(t, 14)
				var want [][]byte
				for p := range used {
					b := some(lengths(each)[p%len(lengths(each))], p)
					puts(t, d, 2+p*each, record(each, uint64(60+p*each), b)...)
					want = append(want, b)
				}
				says(t, d, 2, places, each, 60, want...)
				says(t, d, 2, places, each, 59)
				says(t, d, 2, places, each, 61)
				says(t, d, 1, places, each, 60)
				if used > 1 {
					says(t, d, 2+each, places-1, each, uint64(60+each), want[1:]...)
					says(t, d, 2, used-1, each, 60, want[:used-1]...)
				}
			}
		}
	}
}

func TestScanOfTheGreatestBase(t *testing.T) {
	d := made(t, 4)
	puts(t, d, 0, record(2, greatest-4, some(9, 1))...)
	puts(t, d, 2, record(2, greatest-2, some(8, 2))...)
	says(t, d, 0, 2, 2, greatest-4, some(9, 1), some(8, 2))
}

func TestScanOfPlacesThatAreNotRight(t *testing.T) {
	for each := 1; each <= 3; each++ {
		for at := range 3 {
			for k := range each {
				stamp := uint64(60 + at*each + k)
				good := record(each, uint64(60+at*each), some(90*each, at))[k]
				for i, bad := range unlike(good, stamp) {
					d := made(t, 9)
					var want [][]byte
					for p := range 3 {
						puts(t, d, p*each, record(each, uint64(60+p*each), some(90*each, p))...)
						want = append(want, some(90*each, p))
					}
					says(t, d, 0, 3, each, 60, want...)
					puts(t, d, at*each+k, bad)
					got, e := Scan(d, 0, 3, each, 60)
					if e != api.OK || !equal(got, want[:at]) {
						t.Error(each, at, k, i, len(got), e)
					}
				}
			}
		}
	}
}

// unlike are sectors that may not stand where a sealed one of a stamp does.
func unlike(good []byte, stamp uint64) [][]byte {
	load := good[8:116]
	head, body, sum, tail := bytes.Clone(good), bytes.Clone(good), bytes.Clone(good), bytes.Clone(good)
	head[7]++
	body[60] ^= 1
	sum[116] ^= 128
	tail[127]++
	zero := make([]byte, 128)
	front := append(bytes.Clone(good[:120]), zero[:8]...)
	return [][]byte{
		zero, head, body, sum, tail, front,
		sealed(stamp-1, load), sealed(stamp+1, load), sealed(1, load), sealed(greatest, load), sealed(stamp+1<<32, load), sealed(60-1, load),
		sealed(0, load), sealed(greatest+1, load), sealed(stamp|1<<63, load),
	}
}

func TestScanOfLengths(t *testing.T) {
	for each := 1; each <= 2; each++ {
		room := uint32(108*each - 4)
		for _, tells := range []uint32{room + 1, room + 4, room + 5, room + 108, 1 << 24, 1 << 31, 1<<31 + 1, 1<<32 - 1} {
			for _, b := range [][]byte{nil, some(int(room), 1)} {
				d := made(t, 6)
				puts(t, d, 0, record(each, 7, some(5, 1))...)
				puts(t, d, each, place(each, uint64(7+each), tells, b)...)
				puts(t, d, 2*each, record(each, uint64(7+2*each), some(5, 2))...)
				says(t, d, 0, 3, each, 7, some(5, 1))
			}
		}
		for tells := range room + 1 {
			d := made(t, 6)
			puts(t, d, 0, place(each, 7, tells, nil)...)
			puts(t, d, each, record(each, uint64(7+each), some(5, 2))...)
			says(t, d, 0, 3, each, 7, make([]byte, tells), some(5, 2))
		}
	}
}

func TestScanOfWhatStandsBehind(t *testing.T) {
	for each := 1; each <= 2; each++ {
		room := 108*each - 4
		for tells := 0; tells < room; tells += 17 {
			for at := tells; at < room; at += 3 {
				b := make([]byte, room)
				copy(b, some(tells, 1))
				b[at] = 1 << (at % 8)
				d := made(t, 4)
				puts(t, d, 0, place(each, 7, uint32(tells), b)...)
				puts(t, d, each, record(each, uint64(7+each), some(5, 2))...)
				says(t, d, 0, 2, each, 7)
			}
			b := make([]byte, room)
			b[room-1] = 1
			d := made(t, 2)
			puts(t, d, 0, place(each, 7, uint32(tells), b)...)
			says(t, d, 0, 1, each, 7)
		}
	}
}

func TestScanDoesNothing(t *testing.T) {
	d := made(t, 4)
	if e := d.Write(0, sealed(7, []byte{0, 0, 0, 1, 9})); e != api.OK {
		t.Fatal(e)
	}
	d.Fuse(0)
	for range 3 {
		says(t, d, 0, 4, 1, 7, []byte{9})
	}
	if d.Off() || d.Waits() != 1 {
		t.Error(d.Off(), d.Waits())
	}
}

func TestScanMemory(t *testing.T) {
	d := made(t, 4)
	j := begins(t, d, 0, 2, 2, 7)
	appends(t, j, some(150, 1))
	appends(t, j, some(20, 2))
	a, _ := Scan(d, 0, 2, 2, 7)
	b, _ := Scan(d, 0, 2, 2, 7)
	_ = append(a[0], some(200, 3)...)
	clear(a[0])
	if !equal(a[1:], [][]byte{some(20, 2)}) || !equal(b, [][]byte{some(150, 1), some(20, 2)}) {
		t.Error("answers share memory")
	}
	says(t, d, 0, 2, 2, 7, some(150, 1), some(20, 2))
}

// P10.3 and P10.4

// befores are what may stand where a journal of the base 50 will be, the newest number being below that.
func befores(t *testing.T, size, each int) []*disk.Disk {
	t.Helper()
	plain := made(t, size)
	old := made(t, size)
	for p := range size / each {
		puts(t, old, p*each, record(each, uint64(50-size+p*each), some(90*each, p))...)
	}
	alike := made(t, size)
	for p := range size / each {
		puts(t, alike, p*each, record(each, uint64(49-p), some(60*each, 7))...)
	}
	torn := made(t, size)
	for i := range size {
		b := sealed(49, some(108, i))
		copy(b[8*i:], make([]byte, 8*(i+1)))
		puts(t, torn, i, b)
	}
	return []*disk.Disk{plain, old, alike, torn}
}

func TestNothingIsSaid(t *testing.T) {
	for each := 1; each <= 3; each++ {
		for i, d := range befores(t, 6, each) {
			for places := 1; places*each <= 6; places++ {
				for _, base := range []uint64{50, 51, 1000, greatest - 6} {
					says(t, d, 0, places, each, base)
				}
			}
			if i == 1 && each < 6 {
				got, e := Scan(d, 0, 6/each, each, 44)
				if e != api.OK || len(got) != 6/each {
					t.Error("an old journal", len(got), e)
				}
			}
		}
	}
}

func TestAppendedIsSaid(t *testing.T) {
	for each := 1; each <= 3; each++ {
		for _, d := range befores(t, 6, each) {
			j := begins(t, d, 0, 6/each, each, 50)
			var want [][]byte
			for p := range 6 / each {
				b := some(lengths(each)[p%len(lengths(each))], p)
				appends(t, j, b)
				want = append(want, b)
				says(t, d, 0, 6/each, each, 50, want...)
				says(t, d.Clone(), 0, 6/each, each, 50, want...)
				c := d.Clone()
				c.Crash(nil)
				says(t, c, 0, 6/each, each, 50, want...)
			}
		}
	}
}

// underWay holds what is said behind a crash in an Append against what was appended, and what was under way.
func underWay(t *testing.T, d *disk.Disk, each int, all bool, was [][]byte, b []byte) {
	t.Helper()
	got, e := Scan(d, 0, 3, each, 50)
	without, with := equal(got, was), equal(got, append(was[:len(was):len(was)], b))
	if e != api.OK || !without && !with || all && !with {
		t.Error("behind a crash", each, len(was), len(got), e)
	}
}

func TestCrashes(t *testing.T) {
	for each := 1; each <= 2; each++ {
		for _, before := range befores(t, 3*each, each) {
			d := before
			j := begins(t, d, 0, 3, each, 50)
			var was [][]byte
			for p := range 3 {
				b := some(60*each, 7)
				for fuse := range each + 2 {
					for c := range 17 * 17 {
						is := d.Clone()
						k := *j
						k.on = is
						is.Fuse(fuse)
						e := k.Append(b)
						if (e == api.OK) != (fuse == each+1) || e != api.OK && e != api.ErrPower {
							t.Fatal(each, p, fuse, e)
						}
						is.Crash([]byte{byte(c % 17), byte(c / 17)})
						underWay(t, is, each, e == api.OK, was, b)
					}
				}
				appends(t, j, b)
				was = append(was, b)
			}
		}
	}
}

func TestWhollyKept(t *testing.T) {
	for each := 1; each <= 3; each++ {
		d := made(t, 2*each)
		j := begins(t, d, 0, 2, each, 50)
		appends(t, j, some(9, 1))
		d.Fuse(each)
		if e := j.Append(some(80*each, 2)); e != api.ErrPower {
			t.Fatal(e)
		}
		kept := d.Clone()
		kept.Crash(bytes.Repeat([]byte{16}, each))
		says(t, kept, 0, 2, each, 50, some(9, 1), some(80*each, 2))
		lost := d.Clone()
		lost.Crash(nil)
		says(t, lost, 0, 2, each, 50, some(9, 1))
		for k := range each {
			choices := bytes.Repeat([]byte{16}, each)
			choices[k] = 3
			torn := d.Clone()
			torn.Crash(choices)
			says(t, torn, 0, 2, each, 50, some(9, 1))
		}
	}
}
