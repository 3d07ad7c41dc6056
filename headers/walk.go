package headers

import (
	"math"

	"sojourner/api"
	"sojourner/octets"
)

// Codes of faults.
const (
	badField  = 0
	badNext   = 1
	badOption = 2
)

// walk goes through a chain. Places have 64 bits, so that those above what a fault can tell are not mistaken for others.
type walk struct {
	left    *octets.Cutter
	forMany bool   // is the packet a multicast one?
	next    uint8  // the number of the header that comes
	at      uint64 // where it stands
	told    uint64 // who told its number
	first   bool
	ended   bool

	alert bool
	frag  api.Frag
	rest  []byte
	fault api.Fault
}

// step is what one header does.
type step func(*walk) api.Errno

// steps tells what the headers do whose numbers are known.
func steps() map[uint8]step {
	return map[uint8]step{
		hopOptions: (*walk).hops,
		route:      (*walk).route,
		part:       (*walk).part,
		nothing:    (*walk).nothing,
		endOptions: (*walk).options,
	}
}

// begin: a walk ahead of the first header.
func begin(next uint8, b []byte, at uint32, forMany bool) *walk {
	// The cutter has a copy, so what is cut shares nothing with b.
	w := &walk{left: octets.Of(b), forMany: forMany, next: next, at: uint64(at), first: true}
	// The byte at 6 tells the first header at 40, but is never to blame: there each number may stand.
	w.told = w.at - min(w.at, partLen)
	return w
}

// through: header by header, till the chain ends.
func (w *walk) through() api.Errno {
	known := steps()
	for !w.ended {
		does, ok := known[w.next]
		if !ok {
			does = (*walk).other
		}
		if e := does(w); e != api.OK {
			return e
		}
	}
	return api.OK
}

// hops: a header 0, which may stand behind the fixed header alone.
func (w *walk) hops() api.Errno {
	if !w.first || w.at != fixedLen {
		return w.blame(badNext, w.told)
	}
	return w.options()
}

// options: a header whose bytes are options.
func (w *walk) options() api.Errno {
	follows, b, ok := w.cut()
	if !ok {
		return api.ErrShort
	}
	if e := w.judgeAll(b); e != api.OK {
		return e
	}
	w.goOn(follows, 2+len(b))
	return api.OK
}

// route: a header 43, which may not ask for a way on.
func (w *walk) route() api.Errno {
	follows, b, ok := w.cut()
	if !ok {
		return api.ErrShort
	}
	// A header has eight bytes at least, so its fourth one is there.
	if b[1] != 0 {
		return w.blame(badField, w.at+3)
	}
	w.goOn(follows, 2+len(b))
	return api.OK
}

// part: a header 44, behind which nothing is gone through, if it isn't all of a datagram.
func (w *walk) part() api.Errno {
	if w.left.Left() < partLen {
		return api.ErrShort
	}
	follows := uint8(w.left.Num(1))
	w.left.Num(1)
	place := uint16(w.left.Num(2))
	f := api.Frag{Is: true, ID: uint32(w.left.Num(4)), Offset: place >> 3, More: place&1 != 0}
	if f.Offset == 0 && !f.More {
		w.goOn(follows, partLen)
		return api.OK
	}
	w.frag, w.next = f, follows
	return w.other()
}

// nothing: a header 59, behind which no byte counts.
func (w *walk) nothing() api.Errno {
	w.ended = true
	return api.OK
}

// other: what the packet is about.
func (w *walk) other() api.Errno {
	w.rest, w.ended = w.left.Rest(), true
	return api.OK
}

// cut: a header that tells its length: what follows it, and its bytes from the third one on.
func (w *walk) cut() (follows uint8, b []byte, ok bool) {
	follows = uint8(w.left.Num(1))
	eights := int(w.left.Num(1)) + 1
	b = w.left.Bytes(8*eights - 2)
	return follows, b, !w.left.Bad()
}

// goOn: to what follows a header of so many bytes.
func (w *walk) goOn(follows uint8, long int) {
	w.next, w.told, w.first = follows, w.at, false
	w.at += uint64(long)
}

// blame: a fault at a place.
func (w *walk) blame(code uint8, at uint64) api.Errno {
	w.fault = api.Fault{Code: code, At: uint32(min(at, math.MaxUint32))}
	return api.ErrFault
}
