package icmps

import "sojourner/api"

// The kinds.
const (
	unreachable  = 1
	tooBig       = 2
	timeOver     = 3
	badParam     = 4
	echo         = 128
	echoBack     = 129
	askListeners = 130
	askRouters   = 133
	router       = 134
	askNeighbor  = 135
	neighbor     = 136
	betterWay    = 137
	listener     = 143
)

// pieceLen is how many bytes each of the pieces has that stand behind a record's sources.
const pieceLen = 4

// fields is who is told what a message has, in order: a putter puts each as it is, a getter fills it out of bytes.
type fields interface {
	one(n *uint8)
	two(n *uint16)
	four(n *uint32)
	addr(a *api.Addr)
	noughts(n int)
	// count: of a list that has so many now, how many there are to be.
	count(have int) int
	options(l *[]api.Option)
	rest(b *[]byte)
}

// tell tells all that a message has; false, if its kind is none.
func tell(f fields, m *api.Message) bool {
	f.one(&m.Kind)
	f.one(&m.Code)
	f.noughts(sumLen)
	switch m.Kind {
	case unreachable, tooBig, timeOver, badParam, echo, echoBack:
		f.four(&m.Param)
		f.rest(&m.Data)
	case askListeners:
		tellQuestion(f, m)
	case askRouters:
		f.noughts(4)
		f.options(&m.Options)
	case router:
		tellRouter(f, m)
	case askNeighbor:
		f.noughts(4)
		f.addr(&m.Target)
		f.options(&m.Options)
	case neighbor:
		f.one(&m.Flags)
		f.noughts(3)
		f.addr(&m.Target)
		f.options(&m.Options)
	case betterWay:
		f.noughts(4)
		f.addr(&m.Target)
		f.addr(&m.Dest)
		f.options(&m.Options)
	case listener:
		f.noughts(2)
		tellList(f, &m.Records, f.count(len(m.Records)), tellRecord)
	default:
		return false
	}
	return true
}

// tellQuestion tells what a question to listeners has.
func tellQuestion(f fields, m *api.Message) {
	f.two(&m.Max)
	f.noughts(2)
	f.addr(&m.Group)
	f.one(&m.Robust)
	f.one(&m.Interval)
	tellList(f, &m.Sources, f.count(len(m.Sources)), fields.addr)
}

// tellRouter tells what a router's word has.
func tellRouter(f fields, m *api.Message) {
	f.one(&m.Hops)
	f.one(&m.Flags)
	f.two(&m.Life)
	f.four(&m.Reachable)
	f.four(&m.Retrans)
	f.options(&m.Options)
}

// tellRecord tells what a record has. What stands behind its sources is in no message, so that none is put.
func tellRecord(f fields, r *api.Record) {
	var behind uint8
	f.one(&r.Kind)
	f.one(&behind)
	many := f.count(len(r.Sources))
	f.addr(&r.Group)
	tellList(f, &r.Sources, many, fields.addr)
	f.noughts(pieceLen * int(behind))
}

// tellList tells so many things of a list. Who puts has them all; who gets has none yet.
func tellList[T any](f fields, l *[]T, many int, tellOne func(fields, *T)) {
	if len(*l) < many {
		*l = make([]T, many)
	}
	for i := range many {
		tellOne(f, &(*l)[i])
	}
}
