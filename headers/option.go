package headers

import (
	"sojourner/api"
	"sojourner/octets"
)

// Kinds of options, and how many bytes that one has that puts a packet on alert.
const (
	padOption   = 0
	fillOption  = 1
	alertOption = 5
	alertSize   = 2
)

// What is done with an option that nobody knows: its kind's two highest bits.
const (
	passOver = iota
	letGo
	report
	reportOne // where the packet is for one
)

// judgeAll: a header's options, which stand from its third byte on.
func (w *walk) judgeAll(b []byte) api.Errno {
	c := octets.Of(b)
	for c.Left() > 0 {
		at := w.at + 2 + uint64(len(b)-c.Left())
		kind := uint8(c.Num(1))
		if kind == padOption {
			continue
		}
		size := int(c.Num(1))
		c.Bytes(size)
		if c.Bad() {
			return api.ErrForm
		}
		if e := w.judge(kind, size, at); e != api.OK {
			return e
		}
	}
	return api.OK
}

// judge: one option, of so many bytes, at a place.
func (w *walk) judge(kind uint8, size int, at uint64) api.Errno {
	if kind == alertOption && size == alertSize && w.next == hopOptions {
		w.alert = true
	}
	// The known kinds' two highest bits are noughts, so that they are passed over, too.
	switch kind >> 6 {
	case letGo:
		return api.ErrDrop
	case reportOne:
		if w.forMany {
			return api.ErrDrop
		}
		fallthrough
	case report:
		return w.blame(badOption, at)
	}
	return api.OK
}
