package reply

import (
	"bytes"
	"hash/crc32"
	"math"
	"reflect"
	"slices"
	"strconv"
	"testing"

	"rialto/api"
)

// most is how many bytes of data there may be.
const most = 247

// frameOf is the frame of some bytes, at most 255, put together by hand.
func frameOf(b []byte) []byte {
	ahead := append([]byte{byte(len(b))}, b...)
	s := crc32.Checksum(ahead, crc32.MakeTable(crc32.Castagnoli))
	s = s>>16 ^ s&0xFFFF
	return append(ahead, byte(s/256), byte(s%256))
}

// row is n bytes that are all others.
func row(n int) []byte {
	out := make([]byte, n)
	for i := range out {
		out[i] = byte(i*7 + n)
	}
	return out
}

// spare is bytes with others behind them, of which nobody may know.
func spare(b []byte) []byte {
	return slices.Concat(b, bytes.Repeat([]byte{77}, 300))[:len(b)]
}

// may tells anew, by the words of the document, whether a line may be told that.
func may(kind, op, e, data int) bool {
	switch kind {
	case 1:
		if op < 1 || op > 42 || e < 0 || e > 18 {
			return false
		}
	case 2, 3, 4:
		if op != 0 || e != 0 {
			return false
		}
	case 5:
		if op != 0 || e < 1 || e > 18 {
			return false
		}
	default:
		return false
	}
	if e != 0 {
		return data == 0
	}
	return data <= 247
}

// bytesOf are those of what a line is told, by another hand.
func bytesOf(x api.Out) []byte {
	return append([]byte{byte(x.Kind), byte(x.Op), byte(x.Err)}, x.Data...)
}

// numbers are such as a Kind, an Op and an error may have, or not.
func numbers(most int) []int {
	out := []int{math.MinInt, math.MinInt32, -257, -256, -255, -1, 127, 128, 254, 255, 256, 257, 261, 1 << 32, 1<<32 + 1, 1<<32 + 5, math.MaxInt}
	for n := range most {
		out = append(out, n)
	}
	return out
}

// samples are all that a line may be told, with some data.
func samples() []api.Out {
	var out []api.Out
	for kind := 1; kind <= 5; kind++ {
		for op := range 43 {
			for e := range 19 {
				for _, n := range []int{0, 1, 2, 60, 127, 128, 246, 247} {
					if may(kind, op, e, n) {
						out = append(out, api.Out{Kind: kind, Op: op, Err: api.Errno(e), Data: row(n)})
					}
				}
			}
		}
	}
	return out
}

// same tells whether a line is told the same.
func same(x, y api.Out) bool {
	return x.Kind == y.Kind && x.Op == y.Op && x.Err == y.Err && bytes.Equal(x.Data, y.Data)
}

// nothing tells whether that is the zero value.
func nothing(x api.Out) bool {
	return x.Kind == 0 && x.Op == 0 && x.Err == 0 && len(x.Data) == 0
}

// P27.1

func TestMay(t *testing.T) {
	sizes := []int{0, 1, 60, 246, 247, 248, 250, 255, 256, 1000}
	for _, kind := range numbers(8) {
		for _, op := range numbers(46) {
			for _, e := range numbers(22) {
				for _, n := range sizes {
					x := api.Out{Kind: kind, Op: op, Err: api.Errno(e), Data: make([]byte, n)}
					if May(x) != may(kind, op, e, n) {
						t.Fatal("May", kind, op, e, n, May(x))
					}
				}
			}
		}
	}
	for n := range 600 {
		for kind := 1; kind <= 4; kind++ {
			x := api.Out{Kind: kind, Data: make([]byte, n)}
			if kind == 1 {
				x.Op = 42
			}
			if May(x) != (n <= most) {
				t.Error("data", kind, n)
			}
		}
	}
	if May(api.Out{}) || !May(api.Out{Kind: 2}) || !May(api.Out{Kind: 2, Data: []byte{}}) || May(api.Out{Kind: 5}) {
		t.Error("without data")
	}
}

func TestMayByName(t *testing.T) {
	for _, x := range []api.Out{
		{Kind: api.Reply, Op: api.OpLogin},
		{Kind: api.Reply, Op: api.OpEntry, Data: row(31)},
		{Kind: api.Reply, Op: api.OpGo, Err: api.ErrInput},
		{Kind: api.Reply, Op: api.OpGo, Err: api.ErrQueue},
		{Kind: api.Said, Data: []byte("hi")},
		{Kind: api.Shouted},
		{Kind: api.Filled, Data: row(18)},
		{Kind: api.Failed, Err: api.ErrArg},
		{Kind: api.Failed, Err: api.ErrSum},
	} {
		if !May(x) {
			t.Error("may be", x)
		}
	}
	for _, x := range []api.Out{
		{Kind: api.Reply},
		{Kind: api.Reply, Op: api.OpEntry + 1},
		{Kind: api.Reply, Op: api.OpGo, Err: api.Errors},
		{Kind: api.Reply, Op: api.OpGo, Err: api.ErrNone, Data: []byte{0}},
		{Kind: api.Said, Op: api.OpSay},
		{Kind: api.Shouted, Err: api.ErrArg},
		{Kind: api.Filled, Op: api.OpPost},
		{Kind: api.Failed},
		{Kind: api.Failed, Data: []byte{1}},
		{Kind: api.Failed, Err: api.ErrSum, Data: []byte{1}},
		{Kind: api.Failed, Op: api.OpGo, Err: api.ErrForm},
		{Kind: 6},
		{Kind: -1},
	} {
		if May(x) || len(Wrap(x)) != 0 {
			t.Error("may not be", x, Wrap(x))
		}
	}
}

func TestWrap(t *testing.T) {
	if b := Wrap(api.Out{Kind: 1, Op: 5}); !bytes.Equal(b, frameOf([]byte{1, 5, 0})) {
		t.Error("a Reply to go", b)
	}
	if b := Wrap(api.Out{Kind: 5, Err: 14}); !bytes.Equal(b, frameOf([]byte{5, 0, 14})) {
		t.Error("Failed", b)
	}
	longest := 0
	for _, x := range samples() {
		b := Wrap(x)
		if !bytes.Equal(b, frameOf(bytesOf(x))) {
			t.Error("Wrap", x, b)
		}
		longest = max(longest, len(b))
	}
	if longest != api.MaxOut+3 {
		t.Error("the longest message", longest)
	}
	for _, kind := range []int{math.MinInt, -255, -1, 0, 6, 7, 255, 256, 257, 258, 1<<32 + 2, math.MaxInt} {
		for _, x := range []api.Out{{Kind: kind}, {Kind: kind, Op: 5}, {Kind: kind, Err: 1}, {Kind: kind, Data: row(9)}} {
			if len(Wrap(x)) != 0 {
				t.Error("no Kind", x)
			}
		}
	}
	for _, n := range []int{248, 249, 250, 252, 253, 255, 256, 300, 504, 70000} {
		for kind := 2; kind <= 4; kind++ {
			if x := (api.Out{Kind: kind, Data: make([]byte, n)}); len(Wrap(x)) != 0 {
				t.Error("too much data", kind, n)
			}
		}
	}
}

func TestWrapIsNew(t *testing.T) {
	for _, n := range []int{0, 1, 60, 247} {
		x := api.Out{Kind: 2, Data: spare(row(n))}
		one, two := Wrap(x), Wrap(x)
		for i := range one {
			one[i]++
		}
		if !bytes.Equal(x.Data, row(n)) || bytes.Count(x.Data[:n+300][n:], []byte{77}) != 300 {
			t.Error("what was handed in is changed", n)
		}
		if !bytes.Equal(two, frameOf(append([]byte{2, 0, 0}, row(n)...))) {
			t.Error("it is shared", n)
		}
	}
}

func TestReadShort(t *testing.T) {
	for _, b := range [][]byte{nil, {}, {0}, {1}, {2}, {9}, {255}, {1, 5}, {2, 0}, {0, 0}, {255, 255}} {
		for _, b := range [][]byte{b, spare(b)} {
			if x, e := Read(b); e != api.ErrShort || !nothing(x) {
				t.Error(b, x, e)
			}
		}
	}
}

func TestRead(t *testing.T) {
	if x, e := Read([]byte{1, 5, 0}); e != api.OK || !same(x, api.Out{Kind: 1, Op: 5}) {
		t.Error("a Reply to go", x, e)
	}
	for _, x := range samples() {
		if y, e := Read(spare(bytesOf(x))); e != api.OK || !same(x, y) {
			t.Error("Read", x, y, e)
		}
	}
	for kind := range 256 {
		for op := range 256 {
			for _, fault := range []int{0, 1, 2, 17, 18, 19, 20, 127, 128, 255} {
				for _, n := range []int{0, 1} {
					x := api.Out{Kind: kind, Op: op, Err: api.Errno(fault), Data: row(n)}
					y, e := Read(bytesOf(x))
					if may(kind, op, fault, n) {
						if e != api.OK || !same(x, y) {
							t.Fatal("it may be", x, y, e)
						}
					} else if e != api.ErrForm || !nothing(y) {
						t.Fatal("it may not be", x, y, e)
					}
				}
			}
		}
	}
}

func TestReadLong(t *testing.T) {
	for _, ahead := range [][]byte{{1, 5, 0}, {2, 0, 0}, {3, 0, 0}, {4, 0, 0}} {
		for n := range 700 {
			b := append(slices.Clone(ahead), row(n)...)
			x, e := Read(b)
			if n <= most {
				if e != api.OK || !bytes.Equal(x.Data, row(n)) {
					t.Error("data", ahead, n, x, e)
				}
			} else if e != api.ErrForm || !nothing(x) {
				t.Error("too much data", ahead, n, e)
			}
		}
	}
}

func TestReadIsNew(t *testing.T) {
	b := spare([]byte{2, 0, 0, 7, 8, 9})
	x, _ := Read(b)
	y, _ := Read(b)
	x.Data[0] = 99
	x.Data = append(x.Data, 5)
	if !bytes.Equal(b, []byte{2, 0, 0, 7, 8, 9}) || b[:7][6] != 77 || !bytes.Equal(y.Data, []byte{7, 8, 9}) {
		t.Error("it is shared", b, y)
	}
}

// P27.2 and P27.4

func TestAllNothing(t *testing.T) {
	for _, b := range [][]byte{nil, {}, spare(nil)} {
		if l, e := All(b); e != api.OK || len(l) != 0 {
			t.Error(b, l, e)
		}
	}
}

func TestAll(t *testing.T) {
	l := samples()
	var b []byte
	for _, x := range l {
		b = append(b, Wrap(x)...)
	}
	got, e := All(spare(b))
	if e != api.OK || !slices.EqualFunc(got, l, same) {
		t.Fatal("all", len(got), len(l), e)
	}
	for i := 0; i+3 <= len(l); i += 7 {
		three := slices.Concat(Wrap(l[i]), Wrap(l[i+1]), Wrap(l[i+2]))
		if got, e := All(three); e != api.OK || !slices.EqualFunc(got, l[i:i+3], same) {
			t.Error("three", got, e)
		}
	}
}

// told holds what All answers against an error.
func told(t *testing.T, what string, b []byte, want api.Errno) {
	t.Helper()
	if l, e := All(b); e != want || len(l) != 0 {
		t.Error(what, b, "- got", l, e, "- want", want)
	}
}

func TestAllCut(t *testing.T) {
	one, two := Wrap(api.Out{Kind: 1, Op: 21, Data: row(32)}), Wrap(api.Out{Kind: 5, Err: 13})
	b := slices.Concat(one, two)
	for cut := range b {
		if cut == 0 || cut == len(one) {
			continue
		}
		told(t, "cut", b[:cut], api.ErrShort)
		told(t, "cut, with bytes behind the end", spare(b[:cut]), api.ErrShort)
	}
	for at := range b {
		for bit := range 8 {
			c := bytes.Clone(b)
			c[at] ^= 1 << bit
			if l, e := All(c); e == api.OK || len(l) != 0 {
				t.Error("a turned bit", at, bit, l, e)
			}
		}
	}
}

func TestAllErrors(t *testing.T) {
	right := Wrap(api.Out{Kind: 2, Data: []byte("hi")})
	short, form := frameOf([]byte{1, 5}), frameOf([]byte{6, 0, 0})
	wrong := bytes.Clone(right)
	wrong[2]++
	long := frameOf(append([]byte{2, 0, 0}, row(248)...))
	for _, x := range []struct {
		what string
		b    []byte
		e    api.Errno
	}{
		{"a frame of nothing", frameOf(nil), api.ErrShort},
		{"a message of two bytes", short, api.ErrShort},
		{"what may not be", form, api.ErrForm},
		{"data beside an error", frameOf([]byte{1, 5, 3, 0}), api.ErrForm},
		{"a sum that is wrong", wrong, api.ErrSum},
		{"a message of 251 bytes", long, api.ErrLong},
		{"a byte that tells too much", []byte{251}, api.ErrLong},
		{"a byte that tells just what may be", []byte{250}, api.ErrShort},
		{"the first one is wrong", slices.Concat(form, right), api.ErrForm},
		{"the last one is wrong", slices.Concat(right, right, form), api.ErrForm},
		{"first one that is short, and then one that may not be", slices.Concat(right, short, form), api.ErrShort},
		{"first one that may not be, and then one that is short", slices.Concat(right, form, short), api.ErrForm},
		{"frames first: the sum", slices.Concat(form, short, wrong), api.ErrSum},
		{"frames first: too long", slices.Concat(short, long), api.ErrLong},
		{"frames first: bytes are missing", slices.Concat(form, right[:3]), api.ErrShort},
		{"frames in their order: long", slices.Concat(form, long, wrong), api.ErrLong},
		{"frames in their order: the sum", slices.Concat(right, wrong, long), api.ErrSum},
	} {
		told(t, x.what, x.b, x.e)
	}
	if l, e := All(frameOf(append([]byte{2, 0, 0}, row(247)...))); e != api.OK || len(l) != 1 || len(l[0].Data) != most {
		t.Error("a message of 250 bytes", l, e)
	}
}

func TestAllIsNew(t *testing.T) {
	b := slices.Concat(Wrap(api.Out{Kind: 2, Data: []byte("hi")}), Wrap(api.Out{Kind: 3, Data: []byte("ho")}))
	was := bytes.Clone(b)
	l, _ := All(b)
	l[0].Data = append(l[0].Data, 1, 2, 3, 4, 5, 6, 7, 8)
	l[0].Data[0] = 'k'
	if !bytes.Equal(b, was) || string(l[1].Data) != "ho" {
		t.Error("it is shared", l)
	}
}

func TestNothingElseIsRead(t *testing.T) {
	// What is read is wrapped as just the bytes that were read.
	read := 0
	for kind := range 8 {
		for op := range 256 {
			for e := range 256 {
				b := frameOf([]byte{byte(kind), byte(op), byte(e)})
				l, fault := All(b)
				if fault != api.OK {
					continue
				}
				read++
				if len(l) != 1 || !bytes.Equal(Wrap(l[0]), b) {
					t.Error(b, l)
				}
			}
		}
	}
	if read != 42*19+3+18 {
		t.Error(read)
	}
}

// P27.3

// ints are numbers that may stand in one byte, and others.
func ints() []int {
	return []int{0, 1, 5, 127, 128, 255, 256, 257, 511, 1 << 20, 1<<32 + 3, math.MaxInt, -1, -2, -255, -256, math.MinInt, math.MinInt + 77}
}

func TestNums(t *testing.T) {
	l := ints()
	want := []byte{0, 1, 5, 127, 128, 255, 0, 1, 255, 0, 3, 255, 255, 254, 1, 0, 0, 77}
	if b := Nums(l); !bytes.Equal(b, want) {
		t.Error(b, want)
	}
	for i, n := range l {
		if b := Nums([]int{n}); !bytes.Equal(b, want[i:i+1]) {
			t.Error(n, b)
		}
	}
	for _, l := range [][]int{nil, {}, ints()[:0]} {
		if len(Nums(l)) != 0 {
			t.Error("of nothing", Nums(l))
		}
	}
	if !reflect.DeepEqual(l, ints()) {
		t.Error("what was handed in is changed")
	}
}

func TestRefs(t *testing.T) {
	for i, n := range ints() {
		for j, m := range ints() {
			want := append(Nums(ints()[i:i+1]), Nums(ints()[j:j+1])...)
			if b := Refs([]api.Ref{{Label: n, Slot: m}}); !bytes.Equal(b, want) {
				t.Error(n, m, b, want)
			}
		}
	}
	if b := Refs([]api.Ref{{Label: 1, Slot: 2}, {}, {Label: 7, Slot: 11}, {Label: 1, Slot: 2}}); !bytes.Equal(b, []byte{1, 2, 0, 0, 7, 11, 1, 2}) {
		t.Error(b)
	}
	for _, l := range [][]api.Ref{nil, {}} {
		if len(Refs(l)) != 0 {
			t.Error("of nothing", Refs(l))
		}
	}
}

func TestAmounts(t *testing.T) {
	l := []uint64{0, 1, 0x0102030405060708, 1 << 62, math.MaxUint64}
	want := []byte{
		0, 0, 0, 0, 0, 0, 0, 0,
		0, 0, 0, 0, 0, 0, 0, 1,
		1, 2, 3, 4, 5, 6, 7, 8,
		64, 0, 0, 0, 0, 0, 0, 0,
		255, 255, 255, 255, 255, 255, 255, 255,
	}
	if b := Amounts(l); !bytes.Equal(b, want) {
		t.Error(b)
	}
	for i, n := range l {
		if b := Amounts([]uint64{n}); !bytes.Equal(b, want[8*i:8*i+8]) {
			t.Error(n, b)
		}
	}
	for _, l := range [][]uint64{nil, {}} {
		if len(Amounts(l)) != 0 {
			t.Error("of nothing", Amounts(l))
		}
	}
}

func TestListsAreNew(t *testing.T) {
	nums, refs, amounts := []int{1, 2, 3}, []api.Ref{{Label: 1, Slot: 2}}, []uint64{9}
	calls := [...]func() []byte{
		func() []byte { return Nums(nums) },
		func() []byte { return Refs(refs) },
		func() []byte { return Amounts(amounts) },
	}
	for _, of := range calls {
		one, two := of(), of()
		was := bytes.Clone(two)
		one = append(one, 1, 2, 3)
		for i := range one {
			one[i] = 99
		}
		if !bytes.Equal(two, was) || !bytes.Equal(of(), was) {
			t.Error("it is shared", two)
		}
	}
}

func TestLongLists(t *testing.T) {
	// So many that what copies all bytes for each one of them would not end in time.
	const many = 1 << 20
	nums, refs, amounts := make([]int, many), make([]api.Ref, many), make([]uint64, many)
	for i := range many {
		nums[i], refs[i], amounts[i] = i, api.Ref{Label: i, Slot: i / 256}, uint64(i)
	}
	if b := Nums(nums); len(b) != many || b[many-2] != 254 {
		t.Error("Nums", len(b))
	}
	if b := Refs(refs); len(b) != 2*many || b[2*many-2] != 255 || b[2*many-513] != 254 {
		t.Error("Refs", len(b))
	}
	if b := Amounts(amounts); len(b) != 8*many || b[8*many-1] != 255 || b[8*many-3] != 15 {
		t.Error("Amounts", len(b), b[8*many-8:])
	}
	var messages []byte
	for i := range 5000 {
		messages = append(messages, Wrap(api.Out{Kind: 2, Data: []byte(strconv.Itoa(i))})...)
	}
	if l, e := All(messages); e != api.OK || len(l) != 5000 || string(l[4999].Data) != "4999" {
		t.Error("All", len(l), e)
	}
}
