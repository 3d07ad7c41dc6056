package frags_test

import (
	"bytes"
	"math/big"

	"sojourner/api"
)

// plainPool goes through the chapter's words one by one: it keeps each part as it came, and looks at every place alone.
type plainPool struct {
	list []*plainDatagram
}

type plainDatagram struct {
	src, dst api.Addr
	id       uint32
	came     uint64
	spoilt   bool
	parts    []api.Packet
}

// over is the time at which the datagram's is over, counted in numbers that have no end.
func (d *plainDatagram) over() uint64 {
	sum := new(big.Int).SetUint64(d.came)
	sum.Add(sum, big.NewInt(60000))
	if sum.Cmp(big.NewInt(api.Forever)) > 0 {
		return api.Forever
	}
	return sum.Uint64()
}

// places are all those that a part has.
func places(x api.Packet) map[int]byte {
	m := map[int]byte{}
	for i, b := range x.Body {
		m[8*int(x.Frag.Offset)+i] = b
	}
	return m
}

// endOf is where a part ends.
func endOf(x api.Packet) int { return 8*int(x.Frag.Offset) + len(x.Body) }

// plainClash: a has a place of b, or ends ahead of one, or elsewhere.
func plainClash(a, b api.Packet) bool {
	inA := places(a)
	for place := range places(b) {
		if _, both := inA[place]; both || !a.Frag.More && place >= endOf(a) {
			return true
		}
	}
	return !a.Frag.More && !b.Frag.More && endOf(a) != endOf(b)
}

func (p *plainPool) find(x api.Packet) (int, *plainDatagram) {
	for i, d := range p.list {
		if d.src == x.Src && d.dst == x.Dst && d.id == x.Frag.ID {
			return i, d
		}
	}
	return -1, nil
}

func (p *plainPool) drop(i int) {
	var rest []*plainDatagram
	rest = append(rest, p.list[:i]...)
	p.list = append(rest, p.list[i+1:]...)
}

// Add is P13.2, sentence by sentence.
func (p *plainPool) Add(now uint64, x api.Packet) (api.Packet, bool, bool) {
	none := api.Packet{}
	if !x.Frag.Is {
		return none, false, true
	}
	i, d := p.find(x)
	if x.Frag.More && (len(x.Body) == 0 || len(x.Body)%8 != 0) || endOf(x) > 16384 {
		if d != nil {
			d.spoilt, d.parts = true, nil
		}
		return none, false, true
	}
	if d != nil && d.spoilt || d == nil && len(p.list) == 4 {
		return none, false, true
	}
	if d == nil {
		i, d = len(p.list), &plainDatagram{src: x.Src, dst: x.Dst, id: x.Frag.ID, came: now}
		p.list = append(p.list, d)
	}
	for _, y := range d.parts {
		if x.Frag == y.Frag && bytes.Equal(x.Body, y.Body) {
			return none, false, false
		}
	}
	for _, y := range d.parts {
		if plainClash(x, y) || plainClash(y, x) || len(d.parts) == 32 {
			d.spoilt, d.parts = true, nil
			return none, false, true
		}
	}
	x.Body = bytes.Clone(x.Body)
	d.parts = append(d.parts, x)
	whole, done := d.whole()
	if done {
		p.drop(i)
	}
	return whole, done, false
}

// whole puts each byte in its place, from 0 on, up to the end.
func (d *plainDatagram) whole() (api.Packet, bool) {
	end, all := -1, map[int]byte{}
	var first api.Packet
	for _, x := range d.parts {
		if !x.Frag.More {
			end = endOf(x)
		}
		if x.Frag.Offset == 0 {
			first = x
		}
		for place, b := range places(x) {
			all[place] = b
		}
	}
	if end < 0 {
		return api.Packet{}, false
	}
	first.Frag, first.Body = api.Frag{}, nil
	for place := range end {
		b, had := all[place]
		if !had {
			return api.Packet{}, false
		}
		first.Body = append(first.Body, b)
	}
	return first, true
}

// Tick is P13.3.
func (p *plainPool) Tick(now uint64) []api.Packet {
	var l []api.Packet
	var rest []*plainDatagram
	for _, d := range p.list {
		if d.over() > now {
			rest = append(rest, d)
			continue
		}
		for _, x := range d.parts {
			if x.Frag.Offset == 0 {
				l = append(l, x)
			}
		}
	}
	p.list = rest
	return l
}

// Next is P13.4.
func (p *plainPool) Next() uint64 {
	next := uint64(api.Forever)
	for _, d := range p.list {
		if d.over() < next {
			next = d.over()
		}
	}
	return next
}

func (p *plainPool) Len() int { return len(p.list) }
