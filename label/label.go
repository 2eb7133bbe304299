// Package label is layer 1: labels, and which of them is at or below another one.
package label

import (
	"cmp"
	"iter"
	"math/bits"
	"strconv"
	"strings"

	"rialto/api"
)

const (
	// compartments is how many there are: one for each bit of Comps.
	compartments = 64
	// size is how many bytes a label has: its Level, and Comps as eight.
	size = 9
)

// Right tells whether a label may be.
func Right(a api.Label) bool { return a.Level >= 0 && a.Level < api.Levels }

// Leq tells whether a label is at or below another one.
func Leq(a, b api.Label) bool { return a.Level <= b.Level && a.Comps&^b.Comps == 0 }

// Join is both together.
func Join(a, b api.Label) api.Label {
	return api.Label{Level: max(a.Level, b.Level), Comps: a.Comps | b.Comps}
}

// Meet is what both share.
func Meet(a, b api.Label) api.Label {
	return api.Label{Level: min(a.Level, b.Level), Comps: a.Comps & b.Comps}
}

// Cmp is the order of labels.
func Cmp(a, b api.Label) int {
	return cmp.Or(cmp.Compare(a.Level, b.Level), cmp.Compare(a.Comps, b.Comps))
}

// Hall is a compartment's hall.
func Hall(bit int) (api.Label, api.Errno) {
	if bit < 0 || bit >= compartments {
		return api.Label{}, api.ErrArg
	}
	return api.Label{Comps: 1 << bit}, api.OK
}

// Bits is a label's compartments.
func Bits(a api.Label) []int {
	var out []int
	for bit := range each(a.Comps) {
		out = append(out, bit)
	}
	return out
}

// Bytes is a label's bytes.
func Bytes(a api.Label) []byte {
	if !Right(a) {
		return nil
	}
	out := make([]byte, size)
	out[0] = byte(a.Level)
	for i := size - 1; i > 0; i-- {
		out[i] = byte(a.Comps)
		a.Comps >>= 8
	}
	return out
}

// Read is the label of bytes.
func Read(b []byte) (api.Label, api.Errno) {
	switch {
	case len(b) < size:
		return api.Label{}, api.ErrShort
	case len(b) > size:
		return api.Label{}, api.ErrLong
	}
	a := api.Label{Level: int(b[0])}
	for _, x := range b[1:] {
		a.Comps = a.Comps<<8 | uint64(x)
	}
	if !Right(a) {
		return api.Label{}, api.ErrForm
	}
	return a, api.OK
}

// Print is a label's text.
func Print(a api.Label) string {
	if !Right(a) {
		return ""
	}
	out := strconv.Itoa(a.Level)
	for bit := range each(a.Comps) {
		out += "," + strconv.Itoa(bit)
	}
	return out
}

// Parse is the label of a text.
func Parse(s string) (api.Label, api.Errno) {
	part, rest, more := strings.Cut(s, ",")
	level, ok := number(part, api.Levels)
	if !ok {
		return api.Label{}, api.ErrForm
	}
	a := api.Label{Level: level}
	for last := -1; more; {
		part, rest, more = strings.Cut(rest, ",")
		bit, ok := number(part, compartments)
		if !ok || bit <= last {
			return api.Label{}, api.ErrForm
		}
		a.Comps |= 1 << bit
		last = bit
	}
	return a, api.OK
}

// number reads the decimal digits of a number from 0 on, below most.
func number(s string, most int) (int, bool) {
	n, err := strconv.Atoi(s)
	// Atoi takes a sign and needless noughts, too: with these it is not printed as it was.
	return n, err == nil && n >= 0 && n < most && strconv.Itoa(n) == s
}

// each gives the compartments of a set one by one, rising.
func each(comps uint64) iter.Seq[int] {
	return func(yield func(int) bool) {
		// What is left is a variable of its own: the function may be gone through again.
		for left := comps; left != 0; left &= left - 1 {
			if !yield(bits.TrailingZeros64(left)) {
				return
			}
		}
	}
}
