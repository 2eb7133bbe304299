package disk

import (
	"bytes"
	"math"
	"testing"

	"rialto/api"
)

// filled is a sector of one byte.
func filled(c byte) []byte { return bytes.Repeat([]byte{c}, 128) }

// mixed is a sector of which each word is another one.
func mixed(seed int) []byte {
	out := make([]byte, 128)
	for i := range out {
		out[i] = byte(seed*31 + i*7 + i/8)
	}
	return out
}

// torn is a sector of which the first bytes were written over.
func torn(was, what []byte, n int) []byte {
	return append(bytes.Clone(what[:n]), was[n:]...)
}

// made is a disk that must be.
func made(t *testing.T, n int) *Disk {
	t.Helper()
	d, e := New(n)
	if e != api.OK || d == nil {
		t.Fatal("New", n, e)
	}
	return d
}

// writes writes a sector, which must go well.
func writes(t *testing.T, d *Disk, n int, b []byte) {
	t.Helper()
	if e := d.Write(n, b); e != api.OK {
		t.Fatal("Write", n, e)
	}
}

// flushes flushes, which must go well.
func flushes(t *testing.T, d *Disk) {
	t.Helper()
	if e := d.Flush(); e != api.OK {
		t.Fatal("Flush", e)
	}
}

// crashes is a crash, which must go well.
func crashes(t *testing.T, d *Disk, choices ...byte) {
	t.Helper()
	if e := d.Crash(choices); e != api.OK || d.Off() || d.Waits() != 0 {
		t.Fatal("Crash", e, d.Off(), d.Waits())
	}
}

// has holds a sector against bytes.
func has(t *testing.T, d *Disk, n int, want []byte) {
	t.Helper()
	if b, e := d.Read(n); e != api.OK || !bytes.Equal(b, want) {
		t.Error("Read", n, e, b, want)
	}
}

// nowhere are numbers of which a disk of so many sectors has none.
func nowhere(n int) []int {
	return []int{math.MinInt, -n, -1, n, n + 1, 1 << 32, math.MaxInt}
}

// P7.1

func TestNew(t *testing.T) {
	for _, n := range []int{1, 2, 3, 100, 16383, 16384} {
		d := made(t, n)
		if d.Size() != n || d.Off() || d.Waits() != 0 {
			t.Error(n, d.Size(), d.Off(), d.Waits())
		}
		for i := range n {
			if b, e := d.Read(i); e != api.OK || !bytes.Equal(b, filled(0)) {
				t.Fatal(n, i, b, e)
			}
		}
	}
	for _, n := range []int{math.MinInt, -16384, -1, 0, 16385, 1 << 32, math.MaxInt} {
		if d, e := New(n); d != nil || e != api.ErrArg {
			t.Error(n, d != nil, e)
		}
	}
}

func TestWriteAndRead(t *testing.T) {
	d := made(t, 3)
	writes(t, d, 1, mixed(1))
	has(t, d, 0, filled(0))
	has(t, d, 1, mixed(1))
	has(t, d, 2, filled(0))
	writes(t, d, 2, mixed(2))
	writes(t, d, 1, mixed(3))
	writes(t, d, 0, mixed(4))
	has(t, d, 0, mixed(4))
	has(t, d, 1, mixed(3))
	has(t, d, 2, mixed(2))
	if d.Waits() != 4 {
		t.Error("Waits", d.Waits())
	}
	flushes(t, d)
	has(t, d, 1, mixed(3))
	writes(t, d, 1, filled(0))
	has(t, d, 1, filled(0))
	has(t, d, 0, mixed(4))
	if d.Waits() != 1 {
		t.Error("Waits", d.Waits())
	}
}

func TestLastSector(t *testing.T) {
	d := made(t, 16384)
	writes(t, d, 16383, mixed(9))
	has(t, d, 16383, mixed(9))
	has(t, d, 16382, filled(0))
	if _, e := d.Read(16384); e != api.ErrDisk {
		t.Error(e)
	}
}

func TestWrongWrites(t *testing.T) {
	d := made(t, 3)
	writes(t, d, 1, mixed(1))
	for _, b := range [][]byte{nil, {}, make([]byte, 1), make([]byte, 127), make([]byte, 129), make([]byte, 256), make([]byte, 127, 128)} {
		for n := range 3 {
			if e := d.Write(n, b); e != api.ErrArg {
				t.Error("a length", n, len(b), e)
			}
		}
		for _, n := range nowhere(3) {
			if e := d.Write(n, b); e != api.ErrDisk {
				t.Error("no sector, ahead of a length", n, len(b), e)
			}
		}
	}
	for _, n := range nowhere(3) {
		if e := d.Write(n, filled(5)); e != api.ErrDisk {
			t.Error("Write", n, e)
		}
		if b, e := d.Read(n); e != api.ErrDisk || b != nil {
			t.Error("Read", n, b, e)
		}
	}
	if d.Waits() != 1 {
		t.Error("Waits", d.Waits())
	}
	has(t, d, 0, filled(0))
	has(t, d, 1, mixed(1))
	has(t, d, 2, filled(0))
}

func TestPowerIsOff(t *testing.T) {
	d := made(t, 3)
	writes(t, d, 1, mixed(1))
	flushes(t, d)
	writes(t, d, 2, mixed(2))
	d.Fuse(0)
	if d.Off() {
		t.Error("off ahead of time")
	}
	if e := d.Write(0, mixed(3)); e != api.ErrPower || !d.Off() || d.Waits() != 2 {
		t.Error("the power goes", e, d.Off(), d.Waits())
	}
	for range 2 {
		for _, n := range append(nowhere(3), 0, 1, 2) {
			for _, b := range [][]byte{nil, filled(5), make([]byte, 129)} {
				if e := d.Write(n, b); e != api.ErrPower {
					t.Error("Write", n, len(b), e)
				}
			}
			if b, e := d.Read(n); e != api.ErrPower || b != nil {
				t.Error("Read", n, b, e)
			}
		}
		if e := d.Flush(); e != api.ErrPower {
			t.Error("Flush", e)
		}
		if !d.Off() || d.Waits() != 2 || d.Size() != 3 {
			t.Error(d.Off(), d.Waits(), d.Size())
		}
		// A fuse does not bring it back.
		d.Fuse(7)
	}
	crashes(t, d, 16, 16, 16, 16)
	has(t, d, 0, mixed(3))
	has(t, d, 1, mixed(1))
	has(t, d, 2, mixed(2))
}

func TestFlush(t *testing.T) {
	d := made(t, 2)
	flushes(t, d)
	writes(t, d, 0, mixed(1))
	writes(t, d, 1, mixed(2))
	writes(t, d, 0, mixed(3))
	flushes(t, d)
	if d.Waits() != 0 {
		t.Error("Waits", d.Waits())
	}
	crashes(t, d, 5, 5, 5)
	has(t, d, 0, mixed(3))
	has(t, d, 1, mixed(2))
	flushes(t, d)
	crashes(t, d)
	has(t, d, 0, mixed(3))
	has(t, d, 1, mixed(2))
}

func TestMemory(t *testing.T) {
	d := made(t, 2)
	room := append(mixed(1), 77, 78)
	b := room[:128]
	writes(t, d, 0, b)
	b[0]++
	has(t, d, 0, mixed(1))
	b[0]--
	if !bytes.Equal(room, append(mixed(1), 77, 78)) {
		t.Error("what was handed in is changed", room)
	}
	one, _ := d.Read(0)
	one[5]++
	has(t, d, 0, mixed(1))
	flushes(t, d)
	has(t, d, 0, mixed(1))
	b[9]++
	two, _ := d.Read(0)
	three, _ := d.Read(0)
	two[5]++
	if !bytes.Equal(three, mixed(1)) {
		t.Error("two answers share", three)
	}
	_ = append(two, 99)
	has(t, d, 0, mixed(1))
	has(t, d, 1, filled(0))
	choices := []byte{3, 3}
	writes(t, d, 1, filled(9))
	if e := d.Crash(choices[:1]); e != api.OK || !bytes.Equal(choices, []byte{3, 3}) {
		t.Error("choices", e, choices)
	}
}

func TestNoDisk(t *testing.T) {
	for _, d := range []*Disk{nil, {}, new(Disk)} {
		for range 2 {
			for _, n := range []int{math.MinInt, -1, 0, 1, math.MaxInt} {
				for _, b := range [][]byte{nil, filled(1)} {
					if e := d.Write(n, b); e != api.ErrNil {
						t.Error("Write", n, e)
					}
				}
				if b, e := d.Read(n); e != api.ErrNil || b != nil {
					t.Error("Read", n, b, e)
				}
				d.Fuse(n)
			}
			if d.Flush() != api.ErrNil || d.Crash(nil) != api.ErrNil || d.Crash([]byte{1, 16}) != api.ErrNil {
				t.Error("Flush, Crash")
			}
			if d.Off() || d.Waits() != 0 || d.Size() != 0 || d.Clone() != nil {
				t.Error("something is told")
			}
		}
	}
}

// P7.2

// steps does so many writes and flushes, by turns, and tells how many went well.
func steps(d *Disk, n int, first int) int {
	went := 0
	for i := range n {
		e := api.OK
		if (i+first)%2 == 0 {
			e = d.Write(i%d.Size(), mixed(i))
		} else {
			e = d.Flush()
		}
		if e == api.OK {
			went++
		}
	}
	return went
}

func TestFuse(t *testing.T) {
	for first := range 2 {
		for n := range 12 {
			d := made(t, 4)
			d.Fuse(n)
			if went := steps(d, n, first); went != n || d.Off() {
				t.Error("the power went too soon", n, went)
			}
			has(t, d, 0, must(d, 0))
			if went := steps(d, 1, first); went != 0 || !d.Off() {
				t.Error("the power did not go", n)
			}
			if went := steps(d, 5, first); went != 0 {
				t.Error("done without power", n, went)
			}
			crashes(t, d)
			if went := steps(d, 50, first); went != 50 {
				t.Error("a fuse behind a crash", n, went)
			}
		}
	}
}

// must is a sector that is read.
func must(d *Disk, n int) []byte {
	b, e := d.Read(n)
	if e != api.OK {
		return nil
	}
	return b
}

func TestFuseOfWritesAlone(t *testing.T) {
	for n := range 5 {
		d := made(t, 2)
		d.Fuse(n)
		for i := range n {
			writes(t, d, 0, mixed(i))
		}
		if e := d.Write(1, mixed(9)); e != api.ErrPower || d.Waits() != n+1 {
			t.Error("a write does not wait", n, e, d.Waits())
		}
	}
}

func TestFuseOfFlushesAlone(t *testing.T) {
	for n := range 5 {
		d := made(t, 2)
		writes(t, d, 1, mixed(1))
		d.Fuse(n)
		for range n {
			flushes(t, d)
		}
		was := d.Waits()
		if e := d.Flush(); e != api.ErrPower || !d.Off() || d.Waits() != was {
			t.Error(n, e, d.Off(), d.Waits())
		}
	}
}

func TestPowerGoesAtAFlush(t *testing.T) {
	d := made(t, 2)
	writes(t, d, 0, mixed(1))
	d.Fuse(1)
	writes(t, d, 1, mixed(2))
	if e := d.Flush(); e != api.ErrPower || !d.Off() || d.Waits() != 2 {
		t.Error(e, d.Off(), d.Waits())
	}
	crashes(t, d, 0, 16)
	has(t, d, 0, filled(0))
	has(t, d, 1, mixed(2))
}

func TestPowerGoesAtAWrite(t *testing.T) {
	for choice, want := range map[byte][]byte{0: filled(8), 1: torn(filled(8), mixed(2), 8), 15: torn(filled(8), mixed(2), 120), 16: mixed(2), 255: mixed(2)} {
		d := made(t, 2)
		writes(t, d, 1, filled(8))
		flushes(t, d)
		d.Fuse(0)
		if e := d.Write(1, mixed(2)); e != api.ErrPower || d.Waits() != 1 {
			t.Error(e, d.Waits())
		}
		crashes(t, d, choice)
		has(t, d, 1, want)
		has(t, d, 0, filled(0))
	}
}

func TestOtherFuse(t *testing.T) {
	for _, x := range []struct{ one, two, want int }{{0, 3, 3}, {3, 0, 0}, {5, 5, 5}, {0, -1, 40}, {2, math.MinInt, 40}, {-1, 2, 2}, {-7, -1, 40}, {1, math.MaxInt, 40}, {math.MaxInt, 1, 1}} {
		d := made(t, 3)
		d.Fuse(x.one)
		d.Fuse(x.two)
		if went := steps(d, 40, 0); went != x.want || d.Off() != (x.want < 40) {
			t.Error(x, went, d.Off())
		}
	}
	// One that was used in part is done with, too.
	d := made(t, 3)
	d.Fuse(5)
	steps(d, 4, 0)
	d.Fuse(4)
	if went := steps(d, 40, 0); went != 4 {
		t.Error(went)
	}
}

func TestExample(t *testing.T) {
	d := made(t, 2)
	writes(t, d, 1, filled(5))
	crashes(t, d, 3)
	has(t, d, 1, torn(filled(0), filled(5), 24))
	has(t, d, 0, filled(0))
}

func TestChoices(t *testing.T) {
	for choice := range 256 {
		d := made(t, 3)
		writes(t, d, 1, mixed(1))
		flushes(t, d)
		writes(t, d, 1, mixed(2))
		crashes(t, d, byte(choice))
		has(t, d, 0, filled(0))
		has(t, d, 1, torn(mixed(1), mixed(2), min(choice*8, 128)))
		has(t, d, 2, filled(0))
		// What a crash kept is safe.
		crashes(t, d, 16)
		has(t, d, 1, torn(mixed(1), mixed(2), min(choice*8, 128)))
	}
}

func TestChoicesOfOneSector(t *testing.T) {
	for _, x := range []struct {
		choices []byte
		want    []byte
	}{
		{nil, filled(1)},
		{[]byte{}, filled(1)},
		{[]byte{0, 0, 0}, filled(1)},
		{[]byte{16}, filled(2)},
		{[]byte{0, 16}, filled(3)},
		{[]byte{16, 16, 16}, filled(4)},
		{[]byte{16, 16, 0}, filled(3)},
		// What stood there is what the crash kept, not what was written.
		{[]byte{0, 2}, torn(filled(1), filled(3), 16)},
		{[]byte{0, 0, 5}, torn(filled(1), filled(4), 40)},
		{[]byte{16, 2}, torn(filled(2), filled(3), 16)},
		{[]byte{5, 2, 1}, torn(torn(torn(filled(1), filled(2), 40), filled(3), 16), filled(4), 8)},
		{[]byte{1, 2, 5}, torn(filled(1), filled(4), 40)},
		{[]byte{5, 200, 1, 9, 9, 9}, torn(filled(3), filled(4), 8)},
	} {
		d := made(t, 1)
		writes(t, d, 0, filled(1))
		flushes(t, d)
		for c := range 3 {
			writes(t, d, 0, filled(byte(c+2)))
		}
		crashes(t, d, x.choices...)
		has(t, d, 0, x.want)
	}
}

func TestChoicesAreOfWrites(t *testing.T) {
	// The second write is of the first sector: choices go by writes, not by sectors.
	d := made(t, 3)
	for _, n := range []int{2, 0, 1} {
		writes(t, d, n, mixed(n))
	}
	crashes(t, d, 1, 2, 3)
	has(t, d, 2, torn(filled(0), mixed(2), 8))
	has(t, d, 0, torn(filled(0), mixed(0), 16))
	has(t, d, 1, torn(filled(0), mixed(1), 24))
	// What was flushed has no choice any more.
	writes(t, d, 0, mixed(5))
	flushes(t, d)
	writes(t, d, 1, mixed(6))
	crashes(t, d, 4, 0)
	has(t, d, 0, mixed(5))
	has(t, d, 1, torn(torn(filled(0), mixed(1), 24), mixed(6), 32))
}

func TestCrashOfNothing(t *testing.T) {
	d := made(t, 2)
	crashes(t, d)
	crashes(t, d, 1, 2, 3)
	has(t, d, 0, filled(0))
	d.Fuse(1)
	crashes(t, d)
	if went := steps(d, 30, 0); went != 30 {
		t.Error("the fuse is still there", went)
	}
}

func TestCrashAgain(t *testing.T) {
	d := made(t, 2)
	writes(t, d, 0, mixed(1))
	flushes(t, d)
	for i := range 17 {
		d.Fuse(i % 2)
		for d.Write(i%2, mixed(i+2)) == api.OK {
		}
		was := mixed(1)
		if i%2 == 1 {
			was = filled(0)
		}
		crashes(t, d, 0, 0)
		has(t, d, i%2, was)
	}
}

func TestClone(t *testing.T) {
	d := made(t, 3)
	writes(t, d, 0, mixed(1))
	flushes(t, d)
	writes(t, d, 1, mixed(2))
	d.Fuse(2)
	c := d.Clone()
	if c == nil || c == d || c.Size() != 3 || c.Waits() != 1 || c.Off() {
		t.Fatal("Clone", c)
	}
	// Each goes its own way.
	writes(t, d, 1, mixed(3))
	writes(t, c, 2, mixed(4))
	has(t, d, 1, mixed(3))
	has(t, d, 2, filled(0))
	has(t, c, 1, mixed(2))
	has(t, c, 2, mixed(4))
	flushes(t, c)
	if d.Waits() != 2 || c.Waits() != 0 {
		t.Error("Waits", d.Waits(), c.Waits())
	}
	// The fuse of both was 2.
	if e := c.Write(0, mixed(5)); e != api.ErrPower || d.Off() {
		t.Error("the fuse of the clone", e, d.Off())
	}
	flushes(t, d)
	if e := d.Write(0, mixed(6)); e != api.ErrPower || !d.Off() {
		t.Error("the fuse", e)
	}
	off := c.Clone()
	if off == nil || !off.Off() || off.Waits() != 1 {
		t.Fatal("of one that is off")
	}
	crashes(t, off, 1)
	has(t, off, 0, torn(mixed(1), mixed(5), 8))
	if !c.Off() || c.Waits() != 1 {
		t.Error("the crash of a clone", c.Off(), c.Waits())
	}
	crashes(t, c, 16)
	has(t, c, 0, mixed(5))
	has(t, c, 1, mixed(2))
	crashes(t, d)
	has(t, d, 0, mixed(1))
	has(t, d, 1, mixed(3))
}

func TestClonesOfOneDisk(t *testing.T) {
	d := made(t, 4)
	for i := range 5 {
		writes(t, d, i%4, mixed(i))
	}
	one, two := d.Clone(), d.Clone()
	writes(t, one, 0, filled(1))
	writes(t, two, 0, filled(2))
	writes(t, d, 0, filled(3))
	for c, x := range map[byte]*Disk{1: one, 2: two, 3: d} {
		crashes(t, x, 0, 0, 0, 0, 0, 16)
		has(t, x, 0, filled(c))
		has(t, x, 1, filled(0))
	}
}

// P7.3

// plain is a disk that keeps all that was ever done, and works out what is there each time anew.
type plain struct {
	size    int
	flushed map[int][]byte
	waits   []int
	what    [][]byte
	fuse    int
	off     bool
}

func (p *plain) read(n int) ([]byte, api.Errno) {
	if p.off {
		return nil, api.ErrPower
	}
	if n < 0 || n >= p.size {
		return nil, api.ErrDisk
	}
	for i := len(p.waits) - 1; i >= 0; i-- {
		if p.waits[i] == n {
			return p.what[i], api.OK
		}
	}
	return p.stood(n), api.OK
}

func (p *plain) stood(n int) []byte {
	if b, ok := p.flushed[n]; ok {
		return b
	}
	return make([]byte, 128)
}

func (p *plain) goes() bool {
	p.off = p.fuse == 0
	p.fuse--
	return p.off
}

func (p *plain) write(n int, b []byte) api.Errno {
	if p.off {
		return api.ErrPower
	}
	if n < 0 || n >= p.size {
		return api.ErrDisk
	}
	if len(b) != 128 {
		return api.ErrArg
	}
	p.waits, p.what = append(p.waits, n), append(p.what, b)
	if p.goes() {
		return api.ErrPower
	}
	return api.OK
}

func (p *plain) flush() api.Errno {
	if p.off || p.goes() {
		return api.ErrPower
	}
	for i, n := range p.waits {
		p.flushed[n] = p.what[i]
	}
	p.waits, p.what = nil, nil
	return api.OK
}

func (p *plain) crash(choices []byte) {
	for i, n := range p.waits {
		for at := range 128 {
			if i < len(choices) && at < int(choices[i])*8 {
				b := bytes.Clone(p.stood(n))
				b[at] = p.what[i][at]
				p.flushed[n] = b
			}
		}
	}
	p.waits, p.what, p.fuse, p.off = nil, nil, -1, false
}

// lot gives numbers that look like chance.
type lot uint32

func (l *lot) below(n int) int {
	*l = *l*1664525 + 1013904223
	return int(*l>>8) % n
}

func TestAgainstPlain(t *testing.T) {
	for seed := range 60 {
		l := lot(seed)
		size := 1 + l.below(6)
		d := made(t, size)
		p := &plain{size: size, flushed: map[int][]byte{}, fuse: -1}
		for i := range 400 {
			got, want := api.OK, api.OK
			switch what := l.below(20); {
			case what < 11:
				n, b := l.below(size+2)-1, mixed(i)
				if l.below(10) == 0 {
					b = b[:l.below(128)]
				}
				got, want = d.Write(n, b), p.write(n, b)
			case what < 14:
				got, want = d.Flush(), p.flush()
			case what < 16:
				p.fuse = l.below(9) - 2
				d.Fuse(p.fuse)
			case what < 17:
				d = d.Clone()
			case d.Off() || what == 18:
				choices := make([]byte, l.below(9))
				for k := range choices {
					choices[k] = byte(l.below(20))
				}
				p.crash(choices)
				got = d.Crash(choices)
			}
			if got != want || d.Off() != p.off || d.Waits() != len(p.waits) || d.Size() != size {
				t.Fatal(seed, i, got, want, d.Off(), d.Waits())
			}
			for n := -1; n <= size; n++ {
				b, e := d.Read(n)
				if want, f := p.read(n); e != f || !bytes.Equal(b, want) {
					t.Fatal(seed, i, n, e, f)
				}
			}
		}
	}
}

func TestFlushedStays(t *testing.T) {
	d := made(t, 4)
	for n := range 4 {
		writes(t, d, n, mixed(n))
	}
	flushes(t, d)
	for i := range 50 {
		// Sectors 0 and 1 are written to again, the others are not.
		d.Fuse(i % 7)
		for k := 0; d.Write(k%2, mixed(k+i)) == api.OK; k++ {
		}
		crashes(t, d, byte(i), byte(i+3), byte(i*5))
		has(t, d, 2, mixed(2))
		has(t, d, 3, mixed(3))
	}
}

func TestFirstWordsAndWhatStoodThere(t *testing.T) {
	for choice := range 40 {
		d := made(t, 1)
		writes(t, d, 0, filled(1))
		flushes(t, d)
		writes(t, d, 0, filled(2))
		crashes(t, d, byte(choice))
		b := must(d, 0)
		first := bytes.Count(b, []byte{2})
		if first%8 != 0 || !bytes.Equal(b, torn(filled(1), filled(2), first)) {
			t.Error(choice, b)
		}
	}
}

// P7.4

func TestRefusedUsesNothing(t *testing.T) {
	for n := range 4 {
		d := made(t, 2)
		d.Fuse(n)
		for i := range n + 1 {
			for range 5 {
				if d.Write(-1, filled(1)) != api.ErrDisk || d.Write(2, filled(1)) != api.ErrDisk || d.Write(0, nil) != api.ErrArg || d.Write(1, make([]byte, 129)) != api.ErrArg {
					t.Fatal("not refused")
				}
				// To be read uses nothing, either.
				d.Read(0)
				d.Read(7)
				d.Clone()
			}
			if d.Off() {
				t.Error("the power went", n, i)
			}
			e := d.Flush()
			if (e == api.OK) != (i < n) {
				t.Error(n, i, e)
			}
		}
		// A fuse that is set while the power is off: what is refused uses nothing of it, and the crash takes it away.
		d.Fuse(1)
		if d.Flush() != api.ErrPower || d.Write(0, filled(1)) != api.ErrPower || d.Flush() != api.ErrPower {
			t.Error("done without power")
		}
		crashes(t, d)
		if went := steps(d, 9, 0); went != 9 {
			t.Error(went)
		}
	}
}

func TestManyWait(t *testing.T) {
	d := made(t, 16384)
	for i := range 40000 {
		writes(t, d, i%16384, mixed(i))
	}
	if d.Waits() != 40000 {
		t.Error(d.Waits())
	}
	has(t, d, 5, mixed(32773))
	choices := make([]byte, 40000)
	choices[5], choices[16384+5], choices[16384+16383] = 16, 3, 16
	crashes(t, d, choices...)
	has(t, d, 5, torn(mixed(5), mixed(16389), 24))
	has(t, d, 6, filled(0))
	has(t, d, 16383, mixed(32767))
}
