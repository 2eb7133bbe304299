// Package wire is layer 2: numbers and texts as bytes, put behind others, and taken from the front.
package wire

import (
	"bytes"

	"rialto/api"
)

const (
	// widest is how many bytes a number may have.
	widest = 8
	// longest is how many bytes a text may have: its length is one byte.
	longest = 255
)

// Num puts a number behind bytes.
func Num(b []byte, n uint64, size int) []byte {
	out := b[:len(b):len(b)]
	for i := width(size) - 1; i >= 0; i-- {
		out = append(out, byte(n>>(8*i)))
	}
	return out
}

// Text puts a text behind bytes.
func Text(b []byte, s string) []byte {
	s = s[:min(len(s), longest)]
	return append(append(b[:len(b):len(b)], byte(len(s))), s...)
}

// Scan goes through bytes.
type Scan struct {
	left  []byte
	fault api.Errno
	made  bool // a scan that From did not make is told from one of no bytes
}

// From is a scan of bytes.
func From(b []byte) *Scan {
	// A copy: whoever handed the bytes in may change them while they are gone through.
	return &Scan{left: bytes.Clone(b), made: true}
}

// Num is the number that stands here.
func (c *Scan) Num(size int) uint64 {
	var n uint64
	for _, x := range c.take(width(size)) {
		n = n<<8 | uint64(x)
	}
	return n
}

// Text is the text that stands here.
func (c *Scan) Text(most int) string {
	n := int(c.Num(1))
	c.Rule(n <= most, api.ErrForm)
	return string(c.take(n))
}

// Take is the bytes that stand here.
func (c *Scan) Take(n int) []byte { return bytes.Clone(c.take(max(n, 0))) }

// Rule makes something a fault.
func (c *Scan) Rule(ok bool, e api.Errno) {
	if !ok && c.Fault() == api.OK {
		c.fault = e
	}
}

// Left is how many bytes are left.
func (c *Scan) Left() int {
	if c.Fault() != api.OK {
		return 0
	}
	return len(c.left)
}

// Fault is the first fault.
func (c *Scan) Fault() api.Errno {
	if c == nil || !c.made {
		return api.ErrNil
	}
	return c.fault
}

// End is the fault, or whether bytes are left.
func (c *Scan) End() api.Errno {
	if c.Left() > 0 {
		return api.ErrLong
	}
	return c.Fault()
}

// take takes n bytes from the front, or none, where that is a fault.
func (c *Scan) take(n int) []byte {
	c.Rule(n <= c.Left(), api.ErrShort)
	if c.Fault() != api.OK {
		return nil
	}
	got := c.left[:n:n]
	c.left = c.left[n:]
	return got
}

// width is the size that counts for one that was asked for.
func width(size int) int { return max(1, min(size, widest)) }
