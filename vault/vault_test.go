package vault

import (
	"bytes"
	"encoding/binary"
	"hash/crc32"
	"math"
	"math/rand"
	"testing"

	"rialto/api"
	"rialto/disk"
)

// greatest is the greatest stamp that may be.
const greatest = 1 << 62

// sealed is a sealed sector, made by hand.
func sealed(stamp uint64, load []byte) []byte {
	out := binary.BigEndian.AppendUint64(nil, stamp)
	out = append(out, load...)
	out = append(out, make([]byte, 116-len(out))...)
	out = binary.BigEndian.AppendUint32(out, crc32.Checksum(out, crc32.MakeTable(crc32.Castagnoli)))
	return binary.BigEndian.AppendUint64(out, stamp)
}

// filled are sectors that bytes fill, made by hand: each has the stamp of the one ahead, and so much more.
func filled(many int, stamp, more uint64, b []byte) [][]byte {
	all := append(binary.BigEndian.AppendUint32(nil, uint32(len(b))), b...)
	all = append(all, make([]byte, 108*many-len(all))...)
	var out [][]byte
	for i := range many {
		out = append(out, sealed(stamp+more*uint64(i), all[108*i:108*(i+1)]))
	}
	return out
}

// snapshot are the sectors of an area with a base and a state.
func snapshot(many int, stamp, base uint64, state []byte) [][]byte {
	return filled(many, stamp, 0, append(binary.BigEndian.AppendUint64(nil, base), state...))
}

// record are the sectors of a place of a journal.
func record(each int, stamp uint64, b []byte) [][]byte { return filled(each, stamp, 1, b) }

// blank are sectors of bytes 0.
func blank(many int) [][]byte {
	var out [][]byte
	for range many {
		out = append(out, make([]byte, 128))
	}
	return out
}

// some are so many bytes, none of them 0.
func some(n, seed int) []byte {
	out := make([]byte, n)
	for i := range out {
		out[i] = byte((i*7+i/255+seed*13)%255) + 1
	}
	return out
}

// made is a disk that must be.
func made(t *testing.T, n int) *disk.Disk {
	t.Helper()
	d, e := disk.New(n)
	if e != api.OK {
		t.Fatal("disk.New", n, e)
	}
	return d
}

// puts puts sectors on a disk, side by side, and flushes them.
func puts(t *testing.T, d *disk.Disk, first int, all ...[]byte) {
	t.Helper()
	for i, b := range all {
		if e := d.Write(first+i, b); e != api.OK {
			t.Fatal("Write", first+i, e)
		}
	}
	if e := d.Flush(); e != api.OK {
		t.Fatal("Flush", e)
	}
}

// off takes the power from a disk.
func off(t *testing.T, d *disk.Disk) {
	t.Helper()
	d.Fuse(0)
	if d.Flush() != api.ErrPower || !d.Off() {
		t.Fatal("the power is on")
	}
}

// all is all that stands on a disk, sector behind sector.
func all(t *testing.T, d *disk.Disk) []byte {
	t.Helper()
	var out []byte
	for i := range d.Size() {
		b, e := d.Read(i)
		if e != api.OK {
			t.Fatal("Read", i, e)
		}
		out = append(out, b...)
	}
	return out
}

// stands holds what stands on a disk against what must.
func stands(t *testing.T, d *disk.Disk, want ...[][]byte) {
	t.Helper()
	var flat []byte
	for _, sectors := range want {
		flat = append(flat, bytes.Join(sectors, nil)...)
	}
	if !bytes.Equal(all(t, d), flat) {
		t.Error("what stands there is not what must")
	}
}

// equal tells whether two lists have the same records.
func equal(a, b [][]byte) bool {
	if len(a) != len(b) {
		return false
	}
	for i := range a {
		if !bytes.Equal(a[i], b[i]) {
			return false
		}
	}
	return true
}

// formats makes a vault on a disk, which must go well.
func formats(t *testing.T, d *disk.Disk, p api.Plan, state []byte) {
	t.Helper()
	if e := Format(d, p, state); e != api.OK || d.Waits() != 0 {
		t.Fatal("Format", p, len(state), e, d.Waits())
	}
}

// opens is the vault of a disk, which must tell a state and records.
func opens(t *testing.T, d *disk.Disk, p api.Plan, state []byte, records ...[]byte) *Vault {
	t.Helper()
	v, b, l, e := Open(d, p)
	if e != api.OK || v == nil || !bytes.Equal(b, state) || !equal(l, records) {
		t.Fatal("Open", p, e, v != nil, len(b), len(l), "not", len(state), len(records))
	}
	return v
}

// never holds that Open answers with an error.
func never(t *testing.T, d *disk.Disk, p api.Plan, want api.Errno) {
	t.Helper()
	if v, b, l, e := Open(d, p); v != nil || len(b) != 0 || len(l) != 0 || e != want {
		t.Error("Open", p, v, b, l, e, "not", want)
	}
}

// checks makes a checkpoint, which must go well.
func checks(t *testing.T, v *Vault, p api.Plan, state []byte) {
	t.Helper()
	if e := v.Checkpoint(state); e != api.OK || v.Left() != p.Places {
		t.Fatal("Checkpoint", p, len(state), e, v.Left())
	}
}

// commits commits a record, which must go well.
func commits(t *testing.T, v *Vault, b []byte) {
	t.Helper()
	left := v.Left()
	if e := v.Commit(b); e != api.OK || v.Left() != left-1 {
		t.Fatal("Commit", len(b), e, left, v.Left())
	}
}

// unchanged holds that a call of a vault answers with an error, and does nothing.
func unchanged(t *testing.T, d *disk.Disk, v *Vault, asked func([]byte) api.Errno, b []byte, want api.Errno) {
	t.Helper()
	left, waits, dark := v.Left(), d.Waits(), d.Off()
	d.Fuse(0)
	if e := asked(b); e != want {
		t.Error(len(b), e, "not", want)
	}
	if v.Left() != left || d.Waits() != waits || d.Off() != dark {
		t.Error("it did something", v.Left(), left, d.Waits(), d.Off())
	}
	d.Fuse(-1)
}

// plan is one.
func plan(area, places, each int) api.Plan {
	return api.Plan{Area: area, Places: places, Each: each}
}

// plans are some, by their three numbers.
func plans(all ...[3]int) []api.Plan {
	var out []api.Plan
	for _, n := range all {
		out = append(out, plan(n[0], n[1], n[2]))
	}
	return out
}

// right are plans that may be, and what they need.
func right() map[api.Plan]int {
	return map[api.Plan]int{
		plan(1, 2, 1): 4, plan(1, 1, 1): 3, plan(2, 3, 2): 10, plan(3, 16, 1): 22, plan(8191, 1, 2): 16384, plan(1, 1, 16382): 16384,
		plan(1, 16, 1023): 16370, plan(8184, 16, 1): 16384, plan(8191, 2, 1): 16384, plan(4096, 16, 512): 16384,
	}
}

// wrong are plans that may not be.
func wrong() []api.Plan {
	out := plans([][3]int{
		{0, 0, 0}, {1, 1, 0}, {1, 0, 1}, {0, 1, 1}, {1, 17, 1}, {1, 18, 1}, {1, -1, 1}, {-1, 1, 1}, {1, 1, -1}, {-1, 1, 9}, {1, -2, -2}, {-1, 2, 2},
		{8192, 1, 1}, {8191, 3, 1}, {8191, 1, 3}, {8185, 16, 1}, {1, 1, 16383}, {1, 16, 1024}, {4096, 16, 513}, {4097, 16, 512}, {16384, 1, 1}, {1, 1, 16384},
		{8191, 1, 1 << 33}, {1 << 62, 1, 1}, {1 << 61, 16, 1}, {1, 16, 1 << 60}, {1, 4, 1 << 62}, {1, 2, 1 << 62}, {1 << 62, 1, 1 << 62}, {1 << 62, 2, 1 << 62},
	}...)
	for _, n := range []int{math.MinInt, math.MinInt / 2, math.MaxInt, math.MaxInt/2 + 2, 1 << 32} {
		out = append(out, plan(n, 1, 1), plan(1, n, 1), plan(1, 1, n), plan(1, 16, n), plan(n, n, n))
	}
	return out
}

// small are plans that the tests go through.
func small() []api.Plan {
	return plans([][3]int{{1, 2, 1}, {1, 1, 1}, {2, 2, 1}, {1, 3, 2}, {3, 2, 3}}...)
}

// P12.1

func TestNeed(t *testing.T) {
	for p, n := range right() {
		if Need(p) != n {
			t.Error(p, Need(p), n)
		}
		state, record := Room(p)
		if state != 108*p.Area-12 || record != 108*p.Each-4 {
			t.Error(p, state, record)
		}
	}
	for _, p := range wrong() {
		if n := Need(p); n != 0 {
			t.Error("Need", p, n)
		}
		if state, record := Room(p); state != 0 || record != 0 {
			t.Error("Room", p, state, record)
		}
	}
}

func TestFormat(t *testing.T) {
	for _, p := range small() {
		for i, n := range []int{0, 1, 50, 95, 96, 108*p.Area - 13, 108*p.Area - 12} {
			size := Need(p) + i%3
			d := made(t, size)
			var was [][]byte
			for k := range size {
				was = append(was, sealed(uint64(greatest-k), some(108, k)))
			}
			puts(t, d, 0, was...)
			formats(t, d, p, some(n, i))
			stands(t, d, snapshot(p.Area, 1, 1, some(n, i)), blank(p.Area), blank(p.Places*p.Each), was[Need(p):])
			opens(t, d, p, some(n, i))
		}
	}
}

func TestFormatOfTheGreatest(t *testing.T) {
	for p, n := range right() {
		d := made(t, n)
		b := some(108*p.Area-12, 1)
		formats(t, d, p, b)
		v := opens(t, d, p, b)
		checks(t, v, p, b[1:])
		commits(t, v, some(108*p.Each-4, 2))
		opens(t, d, p, b[1:], some(108*p.Each-4, 2))
	}
}

// refused holds that Format answers with an error, and does nothing.
func refused(t *testing.T, d *disk.Disk, p api.Plan, state []byte, want api.Errno) {
	t.Helper()
	waits, dark := d.Waits(), d.Off()
	d.Fuse(0)
	if e := Format(d, p, state); e != want || d.Waits() != waits || d.Off() != dark {
		t.Error("Format", p, len(state), e, "not", want, d.Waits(), d.Off())
	}
	d.Fuse(-1)
}

func TestWrongPlans(t *testing.T) {
	d := made(t, 16384)
	for range 2 { // of no power likewise
		for _, p := range wrong() {
			never(t, d, p, api.ErrArg)
			for _, n := range []int{0, 96, 97, 5000} {
				refused(t, d, p, some(n, 1), api.ErrArg)
			}
		}
		off(t, d)
	}
}

func TestDiskIsTooSmall(t *testing.T) {
	for _, p := range small() {
		for _, size := range []int{1, Need(p) / 2, Need(p) - 1} {
			d := made(t, size)
			for range 2 {
				for _, n := range []int{0, 108*p.Area - 12, 108*p.Area - 11} {
					refused(t, d, p, some(n, 1), api.ErrArg)
				}
				never(t, d, p, api.ErrArg)
				off(t, d)
			}
		}
	}
}

func TestFormatTooLong(t *testing.T) {
	for _, p := range small() {
		d := made(t, Need(p))
		for range 2 {
			for _, n := range []int{108*p.Area - 11, 108*p.Area - 10, 108*p.Area - 4, 108*p.Area - 3, 108 * p.Area, 5000} {
				refused(t, d, p, some(n, 1), api.ErrLong)
			}
			off(t, d)
		}
		for _, n := range []int{0, 1, 108*p.Area - 12} {
			refused(t, d, p, some(n, 1), api.ErrPower)
		}
		never(t, d, p, api.ErrPower)
	}
}

func TestNoDisk(t *testing.T) {
	for _, d := range []*disk.Disk{nil, {}, new(disk.Disk)} {
		for _, p := range append(wrong(), small()...) {
			for _, n := range []int{0, 97, 5000} {
				if e := Format(d, p, some(n, 1)); e != api.ErrNil {
					t.Error("Format", p, n, e)
				}
			}
			never(t, d, p, api.ErrNil)
		}
	}
}

func TestPowerGoesInFormat(t *testing.T) {
	for _, p := range small() {
		places := p.Places * p.Each
		steps := places + p.Area + 1 + p.Area + 1
		for n := range steps {
			d := made(t, Need(p))
			was := append(snapshot(p.Area, 8, 40, []byte("lamp")), snapshot(p.Area, 9, 40, []byte("rug"))...)
			for k := range places {
				was = append(was, sealed(uint64(90+k), nil))
			}
			puts(t, d, 0, was...)
			d.Fuse(n)
			if e := Format(d, p, []byte("door")); e != api.ErrPower || !d.Off() {
				t.Error(p, n, e, d.Off())
			}
			// First the journal, then the second area, and all is flushed; then the first one.
			kept := min(n+1, places+p.Area)
			waits := kept
			copy(was[2*p.Area:], blank(min(kept, places)))
			copy(was[p.Area:], blank(max(kept-places, 0)))
			if n > places+p.Area {
				waits = min(n-places-p.Area, p.Area)
				copy(was, snapshot(p.Area, 1, 1, []byte("door"))[:waits])
			}
			if d.Waits() != waits {
				t.Error("what waits", p, n, d.Waits(), waits)
			}
			d.Crash(bytes.Repeat([]byte{16}, steps))
			stands(t, d, was)
		}
		d := made(t, Need(p))
		d.Fuse(steps)
		formats(t, d, p, nil)
		if d.Off() || d.Flush() != api.ErrPower {
			t.Error("other steps are done", p)
		}
	}
}

// P12.2

func TestOpen(t *testing.T) {
	for _, p := range small() {
		n := p.Places * p.Each
		for _, base := range []uint64{1, 2, 700, 1 << 40, greatest - uint64(n)} {
			for used := range p.Places + 1 {
				d := made(t, Need(p)+1)
				puts(t, d, 0, snapshot(p.Area, 3, 5, some(20, 1))...)
				puts(t, d, p.Area, snapshot(p.Area, 4, base, some(70*p.Area, 2))...)
				var records [][]byte
				for k := range used {
					records = append(records, some(60*p.Each+k, k))
					puts(t, d, 2*p.Area+k*p.Each, record(p.Each, base+uint64(k*p.Each), records[k])...)
				}
				d.Fuse(0)
				v := opens(t, d, p, some(70*p.Area, 2), records...)
				for range 2 {
					if e := v.Commit(nil); e != api.ErrState || v.Left() != 0 {
						t.Error("it is not closed to records", e, v.Left())
					}
				}
				if d.Off() || d.Waits() != 0 {
					t.Error("something is written")
				}
			}
		}
	}
}

func TestOpenOfOtherRecords(t *testing.T) {
	p := plan(1, 3, 2)
	d := made(t, Need(p))
	puts(t, d, 0, snapshot(1, 1, 13, nil)...)
	for k := range 3 {
		puts(t, d, 2+2*k, record(2, uint64(7+2*k), some(9, k))...)
	}
	opens(t, d, p, nil)
	puts(t, d, 2, record(2, 13, some(8, 1))...)
	puts(t, d, 6, record(2, 17, some(8, 3))...)
	opens(t, d, p, nil, some(8, 1))
	puts(t, d, 4, record(2, 15, nil)...)
	opens(t, d, p, nil, some(8, 1), nil, some(8, 3))
}

func TestOpenOfWhatCounts(t *testing.T) {
	p := plan(1, 1, 1)
	for _, c := range []struct {
		a, b uint64
		want string
	}{{1, 2, "rug"}, {2, 1, "lamp"}, {9, 9, "lamp"}, {7, 8, "rug"}} {
		d := made(t, 3)
		puts(t, d, 0, snapshot(1, c.a, 1, []byte("lamp"))...)
		puts(t, d, 1, snapshot(1, c.b, 1, []byte("rug"))...)
		opens(t, d, p, []byte(c.want))
	}
}

func TestOpenOfNone(t *testing.T) {
	for _, p := range small() {
		d := made(t, Need(p))
		never(t, d, p, api.ErrForm)
		puts(t, d, 0, snapshot(p.Area, 3, 1, nil)[0])
		puts(t, d, p.Area-1, make([]byte, 128))
		never(t, d, p, api.ErrForm)
		for n := range 8 {
			for _, b := range [][]byte{make([]byte, n), some(n, 1)} {
				puts(t, d, 0, filled(p.Area, 3, 0, b)...)
				never(t, d, p, api.ErrForm)
				// The one that counts is asked, not the one that would be right.
				puts(t, d, p.Area, snapshot(p.Area, 2, 1, nil)...)
				never(t, d, p, api.ErrForm)
				puts(t, d, p.Area, blank(p.Area)...)
			}
		}
		puts(t, d, 0, filled(p.Area, 3, 0, []byte{0, 0, 0, 0, 0, 0, 0, 1})...)
		opens(t, d, p, nil)
	}
}

func TestOpenOfWrongBases(t *testing.T) {
	for _, p := range small() {
		last := greatest - uint64(p.Places*p.Each)
		for _, base := range []uint64{0, last + 1, greatest, greatest + 1, 1 << 63, math.MaxUint64} {
			d := made(t, Need(p))
			puts(t, d, 0, snapshot(p.Area, 3, base, some(9, 1))...)
			never(t, d, p, api.ErrForm)
			off(t, d)
			never(t, d, p, api.ErrPower)
		}
	}
}

func TestOpenMemory(t *testing.T) {
	p := plan(2, 3, 2)
	d := made(t, Need(p))
	formats(t, d, p, some(150, 1))
	v := opens(t, d, p, some(150, 1))
	whole := some(400, 1)
	was := bytes.Clone(whole)
	checks(t, v, p, whole[50:190:300])
	commits(t, v, whole[20:180:300])
	commits(t, v, whole[:90])
	if !bytes.Equal(whole, was) {
		t.Error("what was handed in is changed")
	}
	clear(whole)
	_, state, records, _ := Open(d, p)
	_ = append(state, some(200, 7)...)
	_ = append(records[0], some(200, 7)...)
	clear(state)
	clear(records[0])
	if !bytes.Equal(records[1], was[:90]) {
		t.Error("answers share memory")
	}
	opens(t, d, p, was[50:190], was[20:180], was[:90])
}

// P12.3

func TestVault(t *testing.T) {
	for _, p := range small() {
		d := made(t, Need(p))
		n := uint64(p.Places * p.Each)
		formats(t, d, p, []byte("door"))
		v := opens(t, d, p, []byte("door"))
		areas := [2][][]byte{snapshot(p.Area, 1, 1, []byte("door")), blank(p.Area)}
		places := blank(p.Places * p.Each)
		for step := range 6 {
			state := some(108*p.Area-12-step*7, step)
			checks(t, v, p, state)
			base := 1 + n*uint64(step+1)
			areas[1-step%2] = snapshot(p.Area, uint64(step+2), base, state)
			stands(t, d, areas[0], areas[1], places)
			var records [][]byte
			for k := range step % (p.Places + 1) {
				b := some(108*p.Each-4-k*11, k)
				commits(t, v, b)
				records = append(records, b)
				copy(places[k*p.Each:], record(p.Each, base+uint64(k*p.Each), b))
				stands(t, d, areas[0], areas[1], places)
			}
			if d.Waits() != 0 || v.Left() != p.Places-step%(p.Places+1) {
				t.Error(p, step, d.Waits(), v.Left())
			}
			opens(t, d, p, state, records...)
		}
	}
}

func TestCheckpointBehindOpen(t *testing.T) {
	// The next base is one of no stamp that any journal had.
	p := plan(1, 3, 2)
	d := made(t, Need(p))
	formats(t, d, p, nil)
	for step := range 5 {
		v, _, records, e := Open(d, p)
		if e != api.OK || len(records) != min(step, 3) {
			t.Fatal(step, e, len(records))
		}
		unchanged(t, d, v, v.Commit, nil, api.ErrState)
		checks(t, v, p, some(step, step))
		if b, _ := d.Read(1 - step%2); !bytes.Equal(b, snapshot(1, uint64(step+2), uint64(7+6*step), some(step, step))[0]) {
			t.Error("what stands there", step)
		}
		for k := range min(step+1, 3) {
			commits(t, v, some(k, k))
		}
	}
}

func TestClosed(t *testing.T) {
	p := plan(1, 2, 1)
	d := made(t, 4)
	formats(t, d, p, []byte("lamp"))
	v := opens(t, d, p, []byte("lamp"))
	for _, n := range []int{0, 1, 104, 105, 5000} {
		unchanged(t, d, v, v.Commit, some(n, 1), api.ErrState)
	}
	unchanged(t, d, v, v.Checkpoint, some(97, 1), api.ErrLong)
	unchanged(t, d, v, v.Commit, nil, api.ErrState)
	checks(t, v, p, some(96, 1))
	commits(t, v, some(104, 1))
	opens(t, d, p, some(96, 1), some(104, 1))
}

func TestTooLongAndFull(t *testing.T) {
	for _, p := range small() {
		d := made(t, Need(p))
		formats(t, d, p, nil)
		v := opens(t, d, p, nil)
		checks(t, v, p, nil)
		for left := p.Places; left >= 0; left-- {
			for _, n := range []int{108*p.Area - 11, 108*p.Area - 4, 108 * p.Area, 5000} {
				unchanged(t, d, v, v.Checkpoint, some(n, 1), api.ErrLong)
			}
			for _, n := range []int{108*p.Each - 3, 108 * p.Each, 5000} {
				unchanged(t, d, v, v.Commit, some(n, 1), api.ErrLong)
			}
			if v.Left() != left {
				t.Error("Left", p, v.Left(), left)
			}
			if left > 0 {
				commits(t, v, some(108*p.Each-4, left))
			}
		}
		for _, n := range []int{0, 1, 108*p.Each - 4} {
			unchanged(t, d, v, v.Commit, some(n, 1), api.ErrFull)
		}
		// Behind each of these errors it goes on.
		checks(t, v, p, some(108*p.Area-12, 1))
		commits(t, v, some(3, 3))
		opens(t, d, p, some(108*p.Area-12, 1), some(3, 3))
	}
}

func TestCheckpointIsOver(t *testing.T) {
	for _, p := range small() {
		n := uint64(p.Places * p.Each)
		for back := range uint64(3) {
			d := made(t, Need(p))
			puts(t, d, 0, snapshot(p.Area, 3, greatest-2*n-back, nil)...)
			v := opens(t, d, p, nil)
			unchanged(t, d, v, v.Checkpoint, some(108*p.Area-11, 1), api.ErrLong)
			checks(t, v, p, []byte("lamp"))
			commits(t, v, nil)
			left := v.Left()
			for range 2 {
				unchanged(t, d, v, v.Checkpoint, some(108*p.Area-11, 1), api.ErrLong)
				if n > back {
					unchanged(t, d, v, v.Checkpoint, nil, api.ErrOver)
				}
			}
			// It is not dead by that.
			if n > back && left > 0 {
				commits(t, v, []byte("rug"))
				opens(t, d, p, []byte("lamp"), nil, []byte("rug"))
			}
		}
		for base := greatest - 2*n + 1; base <= greatest-n; base++ {
			d := made(t, Need(p))
			puts(t, d, 0, snapshot(p.Area, 3, base, nil)...)
			v := opens(t, d, p, nil)
			unchanged(t, d, v, v.Checkpoint, nil, api.ErrOver)
			unchanged(t, d, v, v.Commit, nil, api.ErrState)
			off(t, d)
			unchanged(t, d, v, v.Checkpoint, nil, api.ErrOver)
		}
	}
}

// dead holds that a vault is dead, also behind a crash.
func dead(t *testing.T, d *disk.Disk, v *Vault, p api.Plan) {
	t.Helper()
	for range 2 {
		for _, n := range []int{0, 1, 96, 97, 104, 105, 5000} {
			unchanged(t, d, v, v.Commit, some(n, 1), api.ErrState)
			unchanged(t, d, v, v.Checkpoint, some(n, 1), api.ErrState)
		}
		if v.Left() != 0 {
			t.Error("Left", v.Left())
		}
		d.Crash(nil)
	}
}

func TestStampsAreOver(t *testing.T) {
	// No stamp is left for the snapshot, but bases are.
	p := plan(1, 2, 1)
	for _, used := range []bool{false, true} {
		d := made(t, 4)
		puts(t, d, 0, snapshot(1, greatest-1, 1, nil)...)
		v := opens(t, d, p, nil)
		checks(t, v, p, []byte("lamp"))
		if used {
			commits(t, v, []byte("rug"))
		}
		d.Fuse(0)
		if e := v.Checkpoint(nil); e != api.ErrOver || d.Off() {
			t.Error("Checkpoint", e, d.Off())
		}
		dead(t, d, v, p)
	}
}

func TestNoSnapshotCounts(t *testing.T) {
	p := plan(1, 2, 1)
	d := made(t, 4)
	formats(t, d, p, nil)
	v := opens(t, d, p, nil)
	checks(t, v, p, nil)
	puts(t, d, 0, blank(2)...)
	if e := v.Checkpoint(nil); e != api.ErrForm || v.Left() != 0 {
		t.Error("Checkpoint", e, v.Left())
	}
	dead(t, d, v, p)
}

func TestPowerGoesInCheckpoint(t *testing.T) {
	for _, p := range small() {
		for _, open := range []bool{false, true} {
			for n := range p.Area + 1 {
				d := made(t, Need(p))
				formats(t, d, p, nil)
				v := opens(t, d, p, nil)
				if open {
					checks(t, v, p, []byte("lamp"))
				}
				d.Fuse(n)
				if e := v.Checkpoint([]byte("rug")); e != api.ErrPower || !d.Off() || d.Waits() != min(n+1, p.Area) {
					t.Error(p, n, e, d.Off(), d.Waits())
				}
				dead(t, d, v, p)
				if open {
					opens(t, d, p, []byte("lamp"))
				} else {
					opens(t, d, p, nil)
				}
			}
			d := made(t, Need(p))
			formats(t, d, p, nil)
			v := opens(t, d, p, nil)
			d.Fuse(p.Area + 1)
			checks(t, v, p, nil)
			if d.Off() || d.Flush() != api.ErrPower {
				t.Error("other steps are done", p)
			}
		}
	}
}

func TestPowerGoesInCommit(t *testing.T) {
	for _, p := range small() {
		for n := range p.Each + 1 {
			d := made(t, Need(p))
			formats(t, d, p, nil)
			v := opens(t, d, p, nil)
			checks(t, v, p, []byte("lamp"))
			d.Fuse(n)
			if e := v.Commit([]byte("rug")); e != api.ErrPower || !d.Off() || d.Waits() != min(n+1, p.Each) {
				t.Error(p, n, e, d.Off(), d.Waits())
			}
			dead(t, d, v, p)
			opens(t, d, p, []byte("lamp"))
		}
		d := made(t, Need(p))
		formats(t, d, p, nil)
		v := opens(t, d, p, nil)
		checks(t, v, p, []byte("lamp"))
		d.Fuse(p.Each + 1)
		commits(t, v, nil)
		if d.Off() || d.Flush() != api.ErrPower {
			t.Error("other steps are done", p)
		}
	}
}

func TestPowerIsOff(t *testing.T) {
	p := plan(1, 2, 1)
	for _, checkpoint := range []bool{false, true} {
		d := made(t, 4)
		formats(t, d, p, nil)
		v := opens(t, d, p, nil)
		checks(t, v, p, []byte("lamp"))
		off(t, d)
		unchanged(t, d, v, v.Checkpoint, some(97, 1), api.ErrLong)
		unchanged(t, d, v, v.Commit, some(105, 1), api.ErrLong)
		if v.Left() != 2 {
			t.Error("Left", v.Left())
		}
		asked := v.Commit
		if checkpoint {
			asked = v.Checkpoint
		}
		if e := asked([]byte("rug")); e != api.ErrPower || d.Waits() != 0 {
			t.Error(e, d.Waits())
		}
		dead(t, d, v, p)
		opens(t, d, p, []byte("lamp"))
	}
}

func TestNoVault(t *testing.T) {
	for _, v := range []*Vault{nil, {}, new(Vault)} {
		for range 2 {
			for _, n := range []int{0, 1, 96, 97, 105, 5000} {
				if e := v.Checkpoint(some(n, 1)); e != api.ErrNil {
					t.Error("Checkpoint", n, e)
				}
				if e := v.Commit(some(n, 1)); e != api.ErrNil {
					t.Error("Commit", n, e)
				}
			}
			if v.Left() != 0 {
				t.Error("Left", v.Left())
			}
		}
	}
}

func TestDiskIsAnotherOne(t *testing.T) {
	// Whoever holds the disk may put another one in its place.
	p := plan(1, 2, 1)
	for _, c := range []struct {
		with               *disk.Disk
		commit, checkpoint api.Errno
	}{{made(t, 1), api.ErrDisk, api.ErrArg}, {made(t, 2), api.ErrDisk, api.ErrForm}, {&disk.Disk{}, api.ErrNil, api.ErrNil}} {
		d := made(t, 4)
		formats(t, d, p, nil)
		v := opens(t, d, p, nil)
		checks(t, v, p, nil)
		*d = *c.with
		if e := v.Commit(nil); e != c.commit || v.Left() != 2 {
			t.Error("Commit", e, v.Left())
		}
		if e := v.Checkpoint(nil); e != c.checkpoint || v.Left() != 0 {
			t.Error("Checkpoint", e, v.Left())
		}
		if e := v.Checkpoint(nil); e != api.ErrState {
			t.Error("Checkpoint", e)
		}
	}
}

func TestExample(t *testing.T) {
	p := plan(1, 2, 1)
	if Need(p) != 4 {
		t.Error(Need(p))
	}
	d := made(t, 4)
	formats(t, d, p, []byte("a"))
	v := opens(t, d, p, []byte("a"))
	checks(t, v, p, []byte("b"))
	commits(t, v, []byte("c"))
	commits(t, v, nil)
	unchanged(t, d, v, v.Commit, []byte("d"), api.ErrFull)
	opens(t, d, p, []byte("b"), []byte("c"), nil)
}

// P12.4 and P12.5

// keeps is what a disk must tell.
type keeps struct {
	state   []byte
	records [][]byte
}

// with is what is kept with one record more.
func (k keeps) with(b []byte) keeps {
	return keeps{k.state, append(k.records[:len(k.records):len(k.records)], b)}
}

// found is which of two a disk tells, twice alike, and a vault of it.
func found(t *testing.T, d *disk.Disk, p api.Plan, was, under keeps) (*Vault, int) {
	t.Helper()
	stood := all(t, d)
	_, state, records, e := Open(d, p)
	v, again, more, f := Open(d, p)
	if e != api.OK || f != api.OK || !bytes.Equal(state, again) || !equal(records, more) || !bytes.Equal(stood, all(t, d)) {
		t.Fatal("Open again", e, f, len(state), len(again), len(records), len(more))
	}
	for i, k := range []keeps{was, under} {
		if bytes.Equal(state, k.state) && equal(records, k.records) {
			return v, i
		}
	}
	t.Fatal("behind a crash", p, len(state), len(records), "not", len(was.state), len(was.records), "nor", len(under.state), len(under.records))
	return nil, 0
}

// steps does something with a fuse and a crash, and holds what is told then against what may be.
func steps(t *testing.T, d *disk.Disk, v *Vault, p api.Plan, fuse int, choices []byte, was keeps, commit bool, b []byte) (*Vault, keeps) {
	t.Helper()
	asked, under, many := v.Checkpoint, keeps{b, nil}, p.Area
	if commit {
		asked, under, many = v.Commit, was.with(b), p.Each
	}
	d.Fuse(fuse)
	e := asked(b)
	if (e == api.OK) != (fuse > many) || e != api.OK && e != api.ErrPower {
		t.Fatal(p, fuse, commit, e)
	}
	d.Crash(choices)
	if e == api.OK {
		was = under
	}
	now, i := found(t, d, p, was, under)
	return now, []keeps{was, under}[i]
}

func TestCrashes(t *testing.T) {
	for _, p := range plans([3]int{1, 2, 1}, [3]int{2, 2, 2}) {
		for used := range p.Places + 1 {
			for _, commit := range []bool{true, false} {
				for fuse := range 4 {
					if commit && used == p.Places {
						continue
					}
					lost, whole := 0, 0
					for c := range 17 * 17 {
						d := made(t, Need(p))
						formats(t, d, p, []byte("lamp"))
						v := opens(t, d, p, []byte("lamp"))
						checks(t, v, p, []byte("rug"))
						was := keeps{state: []byte("rug")}
						for k := range used {
							commits(t, v, some(30, k))
							was = was.with(some(30, k))
						}
						v, now := steps(t, d, v, p, fuse, []byte{byte(c % 17), byte(c / 17)}, was, commit, some(90, 9))
						if bytes.Equal(now.state, was.state) && equal(now.records, was.records) {
							lost++
						} else {
							whole++
						}
						// And again, in the Checkpoint behind Open.
						v, _ = steps(t, d, v, p, c%4, []byte{byte(c / 17), byte(c % 17)}, now, false, some(80, 8))
						checks(t, v, p, []byte("door"))
						commits(t, v, some(3, 3))
						opens(t, d, p, []byte("door"), some(3, 3))
					}
					if whole == 0 && fuse >= p.Area-1 || lost == 0 && fuse <= p.Area && fuse <= p.Each {
						t.Error("not all came to be seen", p, used, commit, fuse, lost, whole)
					}
				}
			}
		}
	}
}

func TestCrashesAgainAndAgain(t *testing.T) {
	chance := rand.New(rand.NewSource(7))
	for _, p := range small() {
		d := made(t, Need(p))
		formats(t, d, p, []byte("lamp"))
		was := keeps{state: []byte("lamp")}
		v := opens(t, d, p, was.state)
		seen := map[string]int{}
		for step := range 3000 {
			b := some(chance.Intn(97), step)
			commit := v.Left() > 0 && chance.Intn(4) > 0
			if chance.Intn(3) > 0 {
				// All goes well, and the vault goes on.
				if commit {
					commits(t, v, b)
					was = was.with(b)
				} else {
					checks(t, v, p, b)
					was = keeps{state: b}
				}
				continue
			}
			many := p.Area
			if commit {
				many = p.Each
			}
			choices := make([]byte, many)
			for i := range choices {
				choices[i] = byte(chance.Intn(30))
			}
			before := was
			v, was = steps(t, d, v, p, chance.Intn(many+2), choices, was, commit, b)
			switch {
			case len(was.records) > len(before.records):
				seen["a record more"]++
			case !bytes.Equal(was.state, before.state):
				seen["another state"]++
			default:
				seen["as it was"]++
			}
		}
		if len(seen) != 3 {
			t.Error("not all came to be seen", p, seen)
		}
	}
}

func TestOpenAgain(t *testing.T) {
	for _, p := range small() {
		d := made(t, Need(p))
		formats(t, d, p, []byte("lamp"))
		v := opens(t, d, p, []byte("lamp"))
		checks(t, v, p, []byte("rug"))
		commits(t, v, some(5, 5))
		stood := all(t, d)
		for range 5 {
			opens(t, d, p, []byte("rug"), some(5, 5))
			d.Crash(nil)
		}
		if !bytes.Equal(stood, all(t, d)) {
			t.Error("it changes what stands there")
		}
	}
}
