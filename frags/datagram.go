package frags

import (
	"bytes"
	"cmp"
	"slices"

	"sojourner/api"
)

// unit is how many bytes an Offset counts as one.
const unit = 8

// name tells a datagram from all others.
type name struct {
	src, dst api.Addr
	id       uint32
}

func nameOf(x api.Packet) name { return name{x.Src, x.Dst, x.Frag.ID} }

// datagram that is not whole yet: its parts, by their places, with bodies that nobody else has.
type datagram struct {
	name   name
	over   uint64
	spoilt bool
	parts  []api.Packet
}

// A part has the places from start on, up to end, which is none of them.
func start(x api.Packet) int { return unit * int(x.Frag.Offset) }

func end(x api.Packet) int { return start(x) + len(x.Body) }

// mayBe: only the last part may have another count of bytes than whole units, and no part goes beyond what may be put together.
func mayBe(x api.Packet) bool {
	units := len(x.Body) > 0 && len(x.Body)%unit == 0
	return (units || !x.Frag.More) && end(x) <= api.MaxWhole
}

// isAgain tells whether both are one part; on what way it came, and by how many hops, does not matter.
func isAgain(a, b api.Packet) bool {
	return a.Frag.Offset == b.Frag.Offset && a.Frag.More == b.Frag.More && bytes.Equal(a.Body, b.Body)
}

// overlap tells whether there is a place that both have.
func overlap(a, b api.Packet) bool { return max(start(a), start(b)) < min(end(a), end(b)) }

// goesBeyond tells whether b ends the datagram, and a goes on behind that end.
func goesBeyond(a, b api.Packet) bool { return !b.Frag.More && end(a) > end(b) }

// clash tells whether both can't be parts of one datagram. Of two that end it elsewhere one goes beyond the other.
func clash(a, b api.Packet) bool { return overlap(a, b) || goesBeyond(a, b) || goesBeyond(b, a) }

// has tells whether the part is there already.
func (d *datagram) has(x api.Packet) bool {
	return slices.ContainsFunc(d.parts, func(y api.Packet) bool { return isAgain(x, y) })
}

// fits tells whether the part can be one more of the datagram.
func (d *datagram) fits(x api.Packet) bool {
	return len(d.parts) < api.MaxParts && !slices.ContainsFunc(d.parts, func(y api.Packet) bool { return clash(x, y) })
}

// spoil leaves no parts, and lets none come, till the datagram's time is over.
func (d *datagram) spoil() {
	if d != nil {
		d.spoilt, d.parts = true, nil
	}
}

// take puts the part where it belongs, with a body of its own.
func (d *datagram) take(x api.Packet) {
	x.Body = slices.Clip(bytes.Clone(x.Body))
	at, _ := slices.BinarySearchFunc(d.parts, x, func(a, b api.Packet) int { return cmp.Compare(start(a), start(b)) })
	d.parts = slices.Insert(d.parts, at, x)
}

// isWhole: parts don't overlap, and none goes beyond one that ends the datagram; so the bytes need only be counted.
func (d *datagram) isWhole() bool {
	last, had := -1, 0
	for _, x := range d.parts {
		had += len(x.Body)
		if !x.Frag.More {
			last = end(x)
		}
	}
	return had == last
}

// together is what a whole datagram is; the part that begins at 0 is its first one.
func (d *datagram) together() api.Packet {
	whole, _ := d.first()
	var bodies [][]byte
	for _, x := range d.parts {
		bodies = append(bodies, x.Body)
	}
	whole.Frag, whole.Body = api.Frag{}, slices.Concat(bodies...)
	whole.Body = slices.Clip(whole.Body)
	return whole
}

// first answers the part that begins at 0, if it is there.
func (d *datagram) first() (x api.Packet, ok bool) {
	if len(d.parts) == 0 || start(d.parts[0]) != 0 {
		return api.Packet{}, false
	}
	return d.parts[0], true
}

// isOver tells whether the datagram's time is not later than now.
func (d *datagram) isOver(now uint64) bool { return d.over <= now }
