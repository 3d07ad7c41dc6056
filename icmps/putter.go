package icmps

import (
	"sojourner/api"
	"sojourner/octets"
	"sojourner/options"
)

// putter puts what it is told behind its bytes. It leaves what it is told as it is.
type putter struct {
	b       []byte
	tooMany bool
}

// put puts a number of so many bytes.
func (p *putter) put(n uint64, many int) {
	p.b = append(p.b, octets.Put(nil, n, many)...)
}

func (p *putter) one(n *uint8) { p.put(uint64(*n), 1) }

func (p *putter) two(n *uint16) { p.put(uint64(*n), 2) }

func (p *putter) four(n *uint32) { p.put(uint64(*n), 4) }

func (p *putter) addr(a *api.Addr) { p.b = append(p.b, a[:]...) }

func (p *putter) noughts(n int) { p.b = append(p.b, make([]byte, n)...) }

// count answers none for a list that is too long, so that nobody goes through all of it.
func (p *putter) count(have int) int {
	if have > api.MaxSources {
		p.tooMany = true
		return 0
	}
	p.put(uint64(have), 2)
	return have
}

func (p *putter) options(l *[]api.Option) {
	if len(*l) > api.MaxOptions {
		p.tooMany = true
		return
	}
	p.b = append(p.b, options.Put(*l)...)
}

func (p *putter) rest(b *[]byte) { p.b = append(p.b, *b...) }
