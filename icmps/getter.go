package icmps

import (
	"sojourner/api"
	"sojourner/octets"
	"sojourner/options"
)

// getter fills what it is told out of bytes. Err is what was wrong first, beside bytes that are not there: the cutter keeps those in mind.
type getter struct {
	c   *octets.Cutter
	err api.Errno
}

// wrong is the first thing that was wrong. Behind bytes that are not there nothing else can be wrong, as noughts are read from then on: so an error that was kept came first.
func (g *getter) wrong() api.Errno {
	if g.err == api.OK && g.c.Bad() {
		return api.ErrShort
	}
	return g.err
}

func (g *getter) one(n *uint8) { *n = uint8(g.c.Num(1)) }

func (g *getter) two(n *uint16) { *n = uint16(g.c.Num(2)) }

func (g *getter) four(n *uint32) { *n = uint32(g.c.Num(4)) }

func (g *getter) addr(a *api.Addr) { copy(a[:], g.c.Bytes(len(a))) }

func (g *getter) noughts(n int) { g.c.Bytes(n) }

// count takes no list that is too long: none of its things is read then.
func (g *getter) count(int) int {
	many := int(g.c.Num(2))
	if many > api.MaxSources {
		g.err = api.ErrForm
		return 0
	}
	return many
}

func (g *getter) options(l *[]api.Option) {
	// A spoilt cutter has no bytes left, and no bytes are no options: there is no error to take over then.
	*l, g.err = options.Get(g.c.Rest())
}

func (g *getter) rest(b *[]byte) { *b = g.c.Rest() }
