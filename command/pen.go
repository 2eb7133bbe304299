package command

import "rialto/wire"

const (
	// last is the greatest number that stands in one byte, and the greatest item.
	last = 127
	// none stands in a byte for no item: in a command that is -1.
	none = 255
)

// pen goes through a command's fields, one by one: it puts, takes or checks what stands there. So what a command has is said once, for all three.
type pen interface {
	text(s *string, most int)
	small(n *int)
	great(n *uint64)
	item(n *int)
}

// putter is a pen that puts fields behind bytes, of a command that may be.
type putter struct{ bytes []byte }

func (p *putter) text(s *string, _ int) { p.bytes = wire.Text(p.bytes, *s) }

func (p *putter) small(n *int) { p.bytes = wire.Num(p.bytes, uint64(*n), 1) }

func (p *putter) great(n *uint64) { p.bytes = wire.Num(p.bytes, *n, 8) }

func (p *putter) item(n *int) {
	told := *n
	if told < 0 {
		told = none
	}
	p.small(&told)
}

// taker is a pen that takes fields from a scan. Behind a fault they are nothing.
type taker struct{ scan *wire.Scan }

func (p taker) text(s *string, most int) { *s = p.scan.Text(most) }

func (p taker) small(n *int) { *n = int(p.scan.Num(1)) }

func (p taker) great(n *uint64) { *n = p.scan.Num(8) }

func (p taker) item(n *int) {
	p.small(n)
	if *n == none {
		*n = -1
	}
}

// checker is a pen that finds out whether fields may be, and takes away what stands there.
type checker struct{ right bool }

func (p *checker) text(s *string, most int) {
	p.rule(len(*s) <= most)
	*s = ""
}

func (p *checker) small(n *int) {
	p.rule(*n >= 0)
	p.item(n)
}

func (p *checker) great(n *uint64) { *n = 0 }

func (p *checker) item(n *int) {
	p.rule(*n >= -1 && *n <= last)
	*n = 0
}

func (p *checker) rule(ok bool) { p.right = p.right && ok }
