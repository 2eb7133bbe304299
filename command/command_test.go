package command

import (
	"bytes"
	"math"
	"reflect"
	"slices"
	"strings"
	"testing"

	"rialto/api"
)

// table is that of the document: a line an Op, its name and its fields.
const table = `login Name Text
logout
look
who
go Dir
dig Name
link Dir At
close Dir
rooms
make Name
scrap Slot
drop Slot
take Slot
pass Slot Who
bag
things
mint Coin Amount
burn Coin Amount
pay Who Coin Amount
lift Label Who Coin Amount
purse
mail Label Who Text
mails
letter Slot
toss Slot
say Text
shout Slot Text
invite Who
raise Who
expel Who
members Slot
offer Who Give Want
accept Slot
refuse Slot
trades
trade Slot
post Side Base Quote Qty Price
pull Slot
book
order Slot
audits
entry Slot`

// ops is how many there are.
const ops = 42

// rowOf is the name of an Op and its fields, by the table.
func rowOf(op int) (string, []string) {
	words := strings.Fields(strings.Split(table, "\n")[op-1])
	return words[0], words[1:]
}

// leaves are all fields of a command but its Op, each that has others as these.
func leaves() []string {
	return []string{
		"Name", "Text", "At.Label", "At.Slot", "Label", "Who", "Slot", "Dir", "Coin", "Amount",
		"Give.Coin", "Give.Amount", "Give.Item", "Want.Coin", "Want.Amount", "Want.Item", "Side", "Base", "Quote", "Qty", "Price",
	}
}

// leavesOf are those of an Op, in the order of its bytes.
func leavesOf(op int) []string {
	var out []string
	_, fields := rowOf(op)
	for _, f := range fields {
		switch f {
		case "At":
			out = append(out, "At.Label", "At.Slot")
		case "Give", "Want":
			out = append(out, f+".Coin", f+".Amount", f+".Item")
		default:
			out = append(out, f)
		}
	}
	return out
}

// at is a field of a command.
func at(c *api.Command, leaf string) reflect.Value {
	v := reflect.ValueOf(c).Elem()
	for _, part := range strings.Split(leaf, ".") {
		v = v.FieldByName(part)
	}
	return v
}

// is tells of what kind a field is: text, great (an amount, of 8 bytes), item, or small.
func is(leaf string) string {
	switch {
	case leaf == "Name" || leaf == "Text":
		return "text"
	case strings.HasSuffix(leaf, "Amount") || leaf == "Qty" || leaf == "Price":
		return "great"
	case strings.HasSuffix(leaf, "Item"):
		return "item"
	}
	return "small"
}

// with is a command of which a field is set.
func with(c api.Command, leaf string, x any) api.Command {
	at(&c, leaf).Set(reflect.ValueOf(x))
	return c
}

// rights are what a field may have; wrongs what it may not.
func rights(leaf string) []any {
	switch is(leaf) {
	case "text":
		most := map[string]int{"Name": 12, "Text": 40}[leaf]
		return []any{"", "a", "a b", "\x00\xff\n", "A-9", " ", "é", strings.Repeat("z", most-1), strings.Repeat("\xfe", most)}
	case "great":
		return []any{uint64(0), uint64(1), uint64(0x0102030405060708), uint64(1 << 62), uint64(1<<62 + 1), uint64(1 << 63), uint64(math.MaxUint64)}
	case "item":
		return []any{-1, 0, 1, 5, 126, 127}
	}
	return []any{0, 1, 2, 7, 64, 126, 127}
}

func wrongs(leaf string) []any {
	numbers := []any{math.MinInt, math.MinInt32, -257, -256, -255, -128, -2, 128, 129, 254, 255, 256, 257, 383, 1 << 32, 1<<32 + 1, math.MaxInt}
	switch is(leaf) {
	case "text":
		most := map[string]int{"Name": 12, "Text": 40}[leaf]
		return []any{strings.Repeat("z", most+1), strings.Repeat("z", 255), strings.Repeat("z", 256), strings.Repeat("z", 256+most), strings.Repeat("é", most/2+1)}
	case "great":
		return nil
	case "item":
		return numbers
	}
	return append(numbers, -1)
}

// base is a command of an Op in which each of its fields is another one.
func base(op int) api.Command {
	c := api.Command{Op: op}
	for i, leaf := range leavesOf(op) {
		switch is(leaf) {
		case "text":
			c = with(c, leaf, strings.Repeat("k", i+3))
		case "great":
			c = with(c, leaf, uint64(0x1122334455667700+i))
		default:
			c = with(c, leaf, 20+i)
		}
	}
	return c
}

// samples are commands that may be, of all Ops.
func samples() []api.Command {
	var out []api.Command
	for op := 1; op <= ops; op++ {
		out = append(out, api.Command{Op: op}, base(op))
		least, greatest := base(op), base(op)
		for _, leaf := range leavesOf(op) {
			for _, x := range rights(leaf) {
				out = append(out, with(api.Command{Op: op}, leaf, x), with(base(op), leaf, x))
			}
			least = with(least, leaf, rights(leaf)[0])
			greatest = with(greatest, leaf, rights(leaf)[len(rights(leaf))-1])
		}
		out = append(out, least, greatest)
	}
	return out
}

// written is a command's bytes, by another hand.
func written(c api.Command) []byte {
	out := []byte{byte(c.Op)}
	for _, leaf := range leavesOf(c.Op) {
		v := at(&c, leaf)
		switch is(leaf) {
		case "text":
			out = append(append(out, byte(v.Len())), v.String()...)
		case "great":
			for shift := 56; shift >= 0; shift -= 8 {
				out = append(out, byte(v.Uint()>>shift))
			}
		default:
			out = append(out, byte(v.Int()))
		}
	}
	return out
}

// strange are Ops that are none.
func strange() []int {
	return []int{math.MinInt, math.MinInt32, -256, -255, -42, -1, 0, 43, 44, 127, 128, 255, 256, 257, 261, 298, 1 << 32, 1<<32 + 5, math.MaxInt}
}

// nothing tells whether a read told an error and nothing else.
func nothing(c api.Command, e, want api.Errno) bool { return e == want && c == api.Command{} }

// P26.1

func TestName(t *testing.T) {
	for op := 1; op <= ops; op++ {
		if want, _ := rowOf(op); Name(op) != want || Op(want) != op {
			t.Error(op, Name(op), Op(want), want)
		}
	}
	for op, want := range map[int]string{api.OpLogin: "login", api.OpGo: "go", api.OpLift: "lift", api.OpEntry: "entry", 21: "purse", 32: "offer"} {
		if Name(op) != want || Op(want) != op {
			t.Error(op, Name(op), Op(want))
		}
	}
	for _, op := range strange() {
		if Name(op) != "" {
			t.Error(op, Name(op))
		}
	}
	for op := range 70000 {
		if (Name(op) != "") != (op >= 1 && op <= ops) {
			t.Error(op, Name(op))
		}
	}
}

func TestOp(t *testing.T) {
	for _, s := range []string{"", " ", "Go", "GO", "go ", " go", "g", "gone", "logi", "log", "log in", "say\n", "say\x00", "\x00", "5", "n", "nt", "wGW", "trad", "tradess", "é", strings.Repeat("go", 5000)} {
		if Op(s) != 0 {
			t.Error(s, Op(s))
		}
	}
}

func TestMay(t *testing.T) {
	for _, c := range samples() {
		if !May(c) {
			t.Error(c)
		}
	}
	for op := 1; op <= ops; op++ {
		for _, c := range []api.Command{{Op: op}, base(op)} {
			for _, leaf := range leavesOf(op) {
				for _, x := range wrongs(leaf) {
					if wrong := with(c, leaf, x); May(wrong) || len(Bytes(wrong)) != 0 {
						t.Error(wrong, Bytes(wrong))
					}
				}
			}
		}
	}
}

func TestMayHasNoOther(t *testing.T) {
	for op := 1; op <= ops; op++ {
		has := leavesOf(op)
		for _, leaf := range leaves() {
			if slices.Contains(has, leaf) {
				continue
			}
			for _, x := range slices.Concat(rights(leaf), wrongs(leaf)) {
				if reflect.ValueOf(x).IsZero() {
					continue
				}
				for _, c := range []api.Command{{Op: op}, base(op)} {
					if wrong := with(c, leaf, x); May(wrong) || len(Bytes(wrong)) != 0 {
						t.Error(leaf, wrong, Bytes(wrong))
					}
				}
			}
		}
	}
}

func TestNoOp(t *testing.T) {
	for _, op := range strange() {
		for _, like := range []int{1, 3, 5, 32, 37} {
			c := base(like)
			c.Op = op
			for _, c := range []api.Command{c, {Op: op}} {
				if May(c) || len(Bytes(c)) != 0 {
					t.Error(c, Bytes(c))
				}
			}
		}
	}
}

// byHand are some commands and their bytes, written out.
func byHand() []struct {
	c api.Command
	b []byte
} {
	return []struct {
		c api.Command
		b []byte
	}{
		{api.Command{Op: api.OpLogin, Name: "ann", Text: "a b"}, []byte{1, 3, 'a', 'n', 'n', 3, 'a', ' ', 'b'}},
		{api.Command{Op: api.OpLogin}, []byte{1, 0, 0}},
		{api.Command{Op: api.OpLook}, []byte{3}},
		{api.Command{Op: api.OpGo, Dir: 2}, []byte{5, 2}},
		{api.Command{Op: api.OpDig, Name: "yard"}, []byte{6, 4, 'y', 'a', 'r', 'd'}},
		{api.Command{Op: api.OpLink, Dir: 1, At: api.Ref{Label: 2, Slot: 3}}, []byte{7, 1, 2, 3}},
		{api.Command{Op: api.OpPass, Slot: 4, Who: 5}, []byte{14, 4, 5}},
		{api.Command{Op: api.OpMint, Coin: 3, Amount: 258}, []byte{17, 3, 0, 0, 0, 0, 0, 0, 1, 2}},
		{api.Command{Op: api.OpPay, Who: 2, Coin: 1, Amount: math.MaxUint64}, []byte{19, 2, 1, 255, 255, 255, 255, 255, 255, 255, 255}},
		{api.Command{Op: api.OpLift, Label: 6, Who: 2, Coin: 1, Amount: 9}, []byte{20, 6, 2, 1, 0, 0, 0, 0, 0, 0, 0, 9}},
		{api.Command{Op: api.OpMail, Label: 6, Who: 2, Text: "hi"}, []byte{22, 6, 2, 2, 'h', 'i'}},
		{api.Command{Op: api.OpShout, Slot: 7, Text: "\n"}, []byte{27, 7, 1, 10}},
		{
			api.Command{Op: api.OpOffer, Who: 127, Give: api.Part{Coin: 2, Amount: 5, Item: -1}, Want: api.Part{Coin: 1, Amount: 1 << 56, Item: 3}},
			[]byte{32, 127, 2, 0, 0, 0, 0, 0, 0, 0, 5, 255, 1, 1, 0, 0, 0, 0, 0, 0, 0, 3},
		},
		{api.Command{Op: api.OpOffer}, append([]byte{32}, make([]byte, 21)...)},
		{
			api.Command{Op: api.OpPost, Side: 1, Base: 2, Quote: 3, Qty: 4, Price: 5},
			[]byte{37, 1, 2, 3, 0, 0, 0, 0, 0, 0, 0, 4, 0, 0, 0, 0, 0, 0, 0, 5},
		},
		{api.Command{Op: api.OpEntry, Slot: 47}, []byte{42, 47}},
	}
}

func TestBytes(t *testing.T) {
	for _, x := range byHand() {
		if b := Bytes(x.c); !bytes.Equal(b, x.b) {
			t.Error(x.c, b, x.b)
		}
		if c, e := Read(x.b); e != api.OK || c != x.c {
			t.Error(x.b, c, e)
		}
	}
	longest := 0
	for _, c := range samples() {
		b := Bytes(c)
		if !bytes.Equal(b, written(c)) {
			t.Error(c, b, written(c))
		}
		longest = max(longest, len(b))
	}
	if longest != 55 || longest > api.MaxPayload {
		t.Error(longest)
	}
}

// P26.2

func TestReadNothing(t *testing.T) {
	for _, b := range [][]byte{nil, {}, append(make([]byte, 0, 9), 5, 2)[:0]} {
		if c, e := Read(b); !nothing(c, e, api.ErrShort) {
			t.Error(c, e)
		}
	}
}

func TestReadKind(t *testing.T) {
	for op := range 256 {
		if op >= 1 && op <= ops {
			continue
		}
		for _, behind := range [][]byte{nil, {0}, {2}, {13}, {255, 255}, make([]byte, 21), make([]byte, 300)} {
			if c, e := Read(append([]byte{byte(op)}, behind...)); !nothing(c, e, api.ErrKind) {
				t.Error(op, behind, c, e)
			}
		}
	}
}

func TestReadCutAndLong(t *testing.T) {
	for _, c := range samples() {
		b := written(c)
		for cut := range b {
			if c, e := Read(b[:cut]); !nothing(c, e, api.ErrShort) {
				t.Error("cut", b[:cut], c, e)
			}
			if c, e := Read(slices.Concat(b[:cut], b)[:cut]); !nothing(c, e, api.ErrShort) {
				t.Error("read behind the end", b[:cut], c, e)
			}
		}
		for _, behind := range [][]byte{{0}, {255}, b, make([]byte, 300)} {
			if c, e := Read(slices.Concat(b, behind)); !nothing(c, e, api.ErrLong) {
				t.Error("long", b, behind, c, e)
			}
		}
	}
}

// place is where in the bytes of a command a field of it begins.
func place(c api.Command, leaf string) int {
	n := 1
	for _, x := range leavesOf(c.Op) {
		if x == leaf {
			break
		}
		switch is(x) {
		case "text":
			n += 1 + at(&c, x).Len()
		case "great":
			n += 8
		default:
			n++
		}
	}
	return n
}

func TestReadLongText(t *testing.T) {
	for op := 1; op <= ops; op++ {
		for _, leaf := range leavesOf(op) {
			if is(leaf) != "text" {
				continue
			}
			c := base(op)
			front := written(c)[:place(c, leaf)]
			most := map[string]int{"Name": 12, "Text": 40}[leaf]
			for n := most + 1; n < 256; n++ {
				// It is met ahead of bytes that are missing, or left.
				for _, behind := range []int{0, 1, most, n - 1, n, n + 1, n + 2, n + 60} {
					b := slices.Concat(front, []byte{byte(n)}, make([]byte, behind))
					if c, e := Read(b); !nothing(c, e, api.ErrForm) {
						t.Error(op, leaf, n, behind, c, e)
					}
				}
			}
		}
	}
	// What is missing ahead of it is met first.
	for b, want := range map[string]api.Errno{
		"\x01\x02a\x29": api.ErrShort, "\x01\x02ab\x29": api.ErrForm, "\x01\x0d\x29": api.ErrForm, "\x01\x02ab": api.ErrShort, "\x16\x05": api.ErrShort, "\x16\xff\xff\x29": api.ErrForm, "\x1b\x80\x29": api.ErrForm, "\x1b\x80\x28": api.ErrShort,
	} {
		if c, e := Read([]byte(b)); !nothing(c, e, want) {
			t.Error([]byte(b), c, e, want)
		}
	}
}

func TestReadNumbers(t *testing.T) {
	for op := 1; op <= ops; op++ {
		for _, leaf := range leavesOf(op) {
			if is(leaf) != "small" && is(leaf) != "item" {
				continue
			}
			for n := range 256 {
				c := base(op)
				b := written(c)
				b[place(c, leaf)] = byte(n)
				want := with(c, leaf, n)
				if is(leaf) == "item" && n == 255 {
					want = with(c, leaf, -1)
				}
				c, e := Read(b)
				if n < 128 || is(leaf) == "item" && n == 255 {
					if e != api.OK || c != want {
						t.Error(op, leaf, n, c, e)
					}
					continue
				}
				if !nothing(c, e, api.ErrForm) {
					t.Error(op, leaf, n, c, e)
				}
				// That it may not be is told behind what is missing, and left.
				if c, e := Read(b[:len(b)-1]); len(b) > place(base(op), leaf)+1 && !nothing(c, e, api.ErrShort) {
					t.Error("cut", op, leaf, n, c, e)
				}
				if c, e := Read(append(b, 0)); !nothing(c, e, api.ErrLong) {
					t.Error("long", op, leaf, n, c, e)
				}
			}
		}
	}
}

func TestReadIsNew(t *testing.T) {
	b := []byte{1, 3, 'a', 'n', 'n', 1, 'x'}
	was := bytes.Clone(b)
	c, e := Read(b)
	if e != api.OK || !bytes.Equal(b, was) {
		t.Error(b, e)
	}
	clear(b)
	if c.Name != "ann" || c.Text != "x" {
		t.Error("what was handed in is kept", c)
	}
	one := Bytes(c)
	clear(one)
	if !bytes.Equal(Bytes(c), was) {
		t.Error("it is shared", Bytes(c))
	}
}

// P26.3

func TestReadAsMade(t *testing.T) {
	for _, c := range samples() {
		if d, e := Read(Bytes(c)); e != api.OK || d != c {
			t.Error(c, d, e)
		}
	}
}

// held holds what is read of bytes against what may be.
func held(t *testing.T, b []byte) {
	t.Helper()
	c, e := Read(b)
	switch {
	case e != api.OK:
		if !nothing(c, e, e) || !slices.Contains([]api.Errno{api.ErrShort, api.ErrKind, api.ErrForm, api.ErrLong}, e) {
			t.Error(b, c, e)
		}
	case !May(c) || !bytes.Equal(Bytes(c), b) || !bytes.Equal(written(c), b):
		t.Error(b, c, Bytes(c))
	}
}

func TestNothingElse(t *testing.T) {
	for x := range 1 << 16 {
		held(t, []byte{byte(x >> 8), byte(x)})
	}
	signs := []byte{0, 1, 2, 12, 13, 40, 41, 127, 128, 255}
	for op := range 256 {
		for _, x := range signs {
			for _, y := range signs {
				held(t, []byte{byte(op), x, y})
				for _, z := range signs {
					held(t, []byte{byte(op), x, y, z})
					held(t, []byte{byte(op), x, y, 0, 0, 0, 0, 0, 0, 0, z})
				}
			}
		}
	}
	for op := 1; op <= ops; op++ {
		b := written(base(op))
		for i := range b {
			for n := range 256 {
				c := bytes.Clone(b)
				c[i] = byte(n)
				held(t, c)
			}
		}
	}
}
