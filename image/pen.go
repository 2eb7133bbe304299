package image

import (
	"rialto/api"
	"rialto/wire"
)

// entrySize is how many bytes an entry has.
const entrySize = 31

// pen goes through a state's bytes, from the front: it puts them there, or it takes them from there. It is told what stands next, as far as that is known, and answers what stands there then. So what the bytes are is said once, for both.
type pen interface {
	num(n uint64, size int) uint64
	text(s string, most int) string
	take(b []byte, n int) []byte
	// Rule makes something a fault.
	Rule(ok bool, e api.Errno)
}

// putter is a pen that puts what it is told, of a state that may be.
type putter struct{ bytes []byte }

func (p *putter) num(n uint64, size int) uint64 {
	p.bytes = append(p.bytes, wire.Num(nil, n, size)...)
	return n
}

func (p *putter) text(s string, _ int) string {
	p.bytes = append(p.bytes, wire.Text(nil, s)...)
	return s
}

func (p *putter) take(b []byte, _ int) []byte {
	p.bytes = append(p.bytes, b...)
	return b
}

// Rule makes nothing a fault: a state that may be keeps all of them.
func (p *putter) Rule(bool, api.Errno) {}

// taker is a pen that takes what stands there, whatever it is told. Behind a fault that is nothing.
type taker struct{ *wire.Scan }

// from is a taker of bytes.
func from(b []byte) taker { return taker{wire.From(b)} }

func (t taker) num(_ uint64, size int) uint64 { return t.Num(size) }

func (t taker) text(_ string, most int) string { return t.Text(most) }

func (t taker) take(_ []byte, n int) []byte { return t.Take(n) }
