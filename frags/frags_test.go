package frags_test

import (
	"bytes"
	"math/rand"
	"reflect"
	"slices"
	"testing"

	"sojourner/api"
	"sojourner/frags"
)

const (
	never = api.Forever
	top   = 1<<64 - 1
)

var (
	src = api.Addr{0xfe, 0x80, 15: 1}
	dst = api.Addr{0x20, 0x01, 15: 2}
)

// upTo is n bytes that differ from those beside them, none of them a nought.
func upTo(n int) []byte {
	b := make([]byte, n)
	for i := range b {
		b[i] = byte(i%251 + 1)
	}
	return b
}

// part of the datagram 7: bytes from..to of upTo. Its hops and what is next tell where it begins; only the first one has an alert.
func part(from, to int, more bool) api.Packet {
	return api.Packet{
		Src: src, Dst: dst, Hops: uint8(from/8 + 60), Alert: from == 0, Next: uint8(from/8 + 17),
		Frag: api.Frag{Is: true, ID: 7, Offset: uint16(from / 8), More: more},
		Body: upTo(to)[from:],
	}
}

// mid is a part that others follow, last one that none does.
func mid(from, to int) api.Packet  { return part(from, to, true) }
func last(from, to int) api.Packet { return part(from, to, false) }

// of is the part as one of another datagram.
func of(id uint32, x api.Packet) api.Packet {
	x.Frag.ID = id
	return x
}

// whole is what the parts of the first n bytes make.
func whole(n int) api.Packet {
	return api.Packet{Src: src, Dst: dst, Hops: 60, Alert: true, Next: 17, Body: upTo(n)}
}

// same holds two packets against each other; no body and an empty one are the same.
func same(a, b api.Packet) bool {
	body := bytes.Equal(a.Body, b.Body)
	a.Body, b.Body = nil, nil
	return body && reflect.DeepEqual(a, b)
}

// deep is a copy that shares nothing.
func deep(x api.Packet) api.Packet {
	x.Body = bytes.Clone(x.Body)
	return x
}

// adder is a pool, or the plain one.
type adder interface {
	Add(now uint64, x api.Packet) (api.Packet, bool, bool)
}

// taken tells a fault, if the part does not become one that is there, while its datagram is not whole.
func taken(t *testing.T, p adder, now uint64, x api.Packet) {
	t.Helper()
	if w, done, dropped := p.Add(now, x); done || dropped || !same(w, api.Packet{}) {
		t.Fatalf("Add(%d, %v) = %v, %v, %v; it should be taken", now, x, w, done, dropped)
	}
}

// dropped likewise, if it is not let go.
func dropped(t *testing.T, p adder, now uint64, x api.Packet) {
	t.Helper()
	if w, done, let := p.Add(now, x); done || !let || !same(w, api.Packet{}) {
		t.Fatalf("Add(%d, %v) = %v, %v, %v; it should be let go", now, x, w, done, let)
	}
}

// makes likewise, if it does not make that whole one.
func makes(t *testing.T, p adder, now uint64, x, want api.Packet) {
	t.Helper()
	w, done, let := p.Add(now, x)
	if !done || let || !same(w, want) {
		t.Fatalf("Add(%d, %v) = %v, %v, %v; it should make %v", now, x, w, done, let, want)
	}
	if cap(w.Body) != len(w.Body) {
		t.Fatalf("%d bytes of room behind", cap(w.Body)-len(w.Body))
	}
}

// stands tells a fault, if the pool has another count of datagrams, or another time is next.
func stands(t *testing.T, p *frags.Pool, n int, next uint64) {
	t.Helper()
	if p.Len() != n || p.Next() != next {
		t.Fatalf("Len %d, Next %d, not %d, %d", p.Len(), p.Next(), n, next)
	}
}

// ticks tells a fault, if Tick answers others, or has room behind.
func ticks(t *testing.T, p *frags.Pool, now uint64, want ...api.Packet) {
	t.Helper()
	l := p.Tick(now)
	if !slices.EqualFunc(l, want, same) {
		t.Fatalf("Tick(%d) = %v, not %v", now, l, want)
	}
	if cap(l) != len(l) {
		t.Fatal("room behind the list")
	}
	for _, x := range l {
		if cap(x.Body) != len(x.Body) {
			t.Fatal("room behind a body")
		}
	}
}

// with makes a pool to which these were added at 5, of which none was let go.
func with(t *testing.T, l ...api.Packet) *frags.Pool {
	t.Helper()
	p := frags.New()
	for _, x := range l {
		taken(t, p, 5, x)
	}
	return p
}

// spoilt tells a fault, if the datagram 7 of the pool takes any part, or has one.
func spoilt(t *testing.T, p *frags.Pool) {
	t.Helper()
	n, next := p.Len(), p.Next()
	for _, x := range []api.Packet{mid(0, 8), last(8, 11), mid(800, 808), last(0, 0)} {
		dropped(t, p, 9, x)
	}
	stands(t, p, n, next)
}

func TestExamples(t *testing.T) {
	p := frags.New()
	taken(t, p, 5, last(8, 11))
	makes(t, p, 9, mid(0, 8), whole(11))
	stands(t, p, 0, never)

	p = frags.New()
	taken(t, p, 5, mid(0, 8))
	dropped(t, p, 6, mid(0, 16))
	dropped(t, p, 7, last(8, 11))
	stands(t, p, 1, 60005)
	ticks(t, p, 60005)
	stands(t, p, 0, never)
}

// P13.1, R3
func TestNoPool(t *testing.T) {
	for _, p := range []*frags.Pool{nil, {}, new(frags.Pool)} {
		for _, x := range []api.Packet{mid(0, 8), last(0, 3), last(0, 0), mid(8, 15), {}} {
			dropped(t, p, 5, x)
			stands(t, p, 0, never)
		}
		for _, now := range []uint64{0, 60005, never, top} {
			if l := p.Tick(now); l != nil {
				t.Fatal(l)
			}
		}
	}
}

// P13.1
func TestNew(t *testing.T) {
	p, other := frags.New(), frags.New()
	stands(t, p, 0, never)
	ticks(t, p, 0)
	ticks(t, p, top)
	taken(t, p, 5, mid(0, 8))
	stands(t, p, 1, 60005)
	stands(t, other, 0, never)
	taken(t, other, 6, last(8, 11))
	stands(t, p, 1, 60005)
	makes(t, p, 9, last(8, 11), whole(11))
	stands(t, other, 1, 60006)
}

// A copy of a pool is the same pool, whatever either of them takes.
func TestCopy(t *testing.T) {
	p := frags.New()
	taken(t, p, 5, of(1, mid(0, 8)))
	q := *p
	taken(t, p, 6, of(2, mid(0, 8)))
	taken(t, &q, 7, of(3, mid(0, 8)))
	stands(t, p, 3, 60005)
	stands(t, &q, 3, 60005)
	ticks(t, p, 60006, of(1, mid(0, 8)), of(2, mid(0, 8)))
	stands(t, &q, 1, 60007)
}

// P13.2
func TestNoPart(t *testing.T) {
	p := frags.New()
	x := mid(0, 8)
	x.Frag.Is = false
	y := last(0, 3)
	y.Frag.Is = false
	for _, x := range []api.Packet{x, y, {}, {Src: src, Dst: dst, Body: upTo(9)}} {
		dropped(t, p, 5, x)
		stands(t, p, 0, never)
	}
	taken(t, p, 5, mid(0, 8))
	dropped(t, p, 6, x)
	bad := mid(8, 15)
	bad.Frag.Is = false
	dropped(t, p, 6, bad)
	makes(t, p, 7, last(8, 11), whole(11)) // it was not spoilt by them
}

// orders calls f with each order of 0..n-1.
func orders(n int, f func([]int)) {
	var rest func(l []int)
	rest = func(l []int) {
		if len(l) == n {
			f(l)
			return
		}
		for i := range n {
			if !slices.Contains(l, i) {
				rest(append(slices.Clone(l), i))
			}
		}
	}
	rest(nil)
}

// P13.2, P13.5
func TestOrders(t *testing.T) {
	cuts := [][]api.Packet{
		{mid(0, 16), mid(16, 24), last(24, 29)},
		{mid(0, 8), mid(8, 24), mid(24, 32), last(32, 40)},
		{mid(0, 8), mid(8, 16), last(16, 16)},
		{mid(0, 8), last(8, 9)},
		{mid(0, 8), mid(8, 16), mid(16, 24), mid(24, 1024), last(1024, 1031)},
	}
	for _, l := range cuts {
		n := endOf(l[len(l)-1])
		orders(len(l), func(order []int) {
			once, more := frags.New(), frags.New()
			for i, k := range order {
				if i == len(order)-1 {
					makes(t, once, 9, l[k], whole(n))
					makes(t, more, 9, l[k], whole(n))
					break
				}
				taken(t, once, 5, l[k])
				for _, again := range order[:i+1] {
					taken(t, more, 5, l[again])
				}
				stands(t, more, 1, 60005)
			}
			stands(t, once, 0, never)
			stands(t, more, 0, never)
		})
	}
}

// A datagram that was whole is there no more: what comes of it begins it anew.
func TestAnew(t *testing.T) {
	p := with(t, mid(0, 8))
	makes(t, p, 6, last(8, 11), whole(11))
	taken(t, p, 7, last(8, 11))
	stands(t, p, 1, 60007)
	makes(t, p, 8, mid(0, 8), whole(11))
	makes(t, p, 9, last(0, 11), whole(11))
	makes(t, p, 9, last(0, 8), whole(8))
	makes(t, p, 9, last(0, 0), whole(0))
	stands(t, p, 0, never)
}

// P13.2: one that may not be, alone and where its datagram is there.
func TestMayNotBe(t *testing.T) {
	over := last(0, 0)
	over.Frag.Offset = 2049
	far := last(0, 8)
	far.Frag.Offset = 65535
	for _, x := range []api.Packet{
		mid(8, 8), mid(8, 15), mid(8, 17), mid(8, 9), mid(0, 0), mid(0, 7), mid(0, 9), mid(0, 1),
		mid(16376, 16385), mid(16376, 16392), mid(16384, 16392), mid(0, 16392),
		last(16376, 16385), last(16384, 16385), last(16384, 16392), last(0, 16385), over, far,
	} {
		p := frags.New()
		dropped(t, p, 5, x)
		stands(t, p, 0, never)

		p = with(t, of(8, mid(0, 8)), mid(0, 8))
		dropped(t, p, 6, x)
		stands(t, p, 2, 60005)
		spoilt(t, p)
		dropped(t, p, 6, x) // again, now that it is spoilt
		spoilt(t, p)
		makes(t, p, 6, of(8, last(8, 11)), whole(11)) // the other one is not
	}
}

// P13.2: the bodies that may be.
func TestMayBe(t *testing.T) {
	for _, x := range []api.Packet{
		mid(8, 16), mid(8, 24), mid(16376, 16384), mid(8, 16384),
		last(8, 8), last(8, 9), last(8, 15), last(8, 16), last(8, 17),
		last(16376, 16383), last(16376, 16384), last(16384, 16384), last(16376, 16376), last(8, 16384),
	} {
		p := frags.New()
		taken(t, p, 5, x)
		stands(t, p, 1, 60005)
		taken(t, p, 6, x)
	}
	for _, n := range []int{0, 1, 7, 8, 9, 15, 16, 17, 16383, 16384} {
		makes(t, frags.New(), 5, last(0, n), whole(n))
	}
	p := with(t, mid(0, 8192), mid(8192, 16384))
	makes(t, p, 5, last(16384, 16384), whole(16384))
	p = with(t, last(8192, 16384))
	makes(t, p, 5, mid(0, 8192), whole(16384))
}

// P13.2: those that don't fit one that is there, whichever of both comes first.
func TestDoesNotFit(t *testing.T) {
	for _, pair := range [][2]api.Packet{
		{mid(8, 16), mid(8, 24)},  // the same beginning
		{mid(8, 24), mid(16, 24)}, // the same end
		{mid(8, 24), mid(16, 32)}, // one over the other
		{mid(8, 32), mid(16, 24)}, // one within the other
		{mid(0, 16), mid(8, 24)},
		{mid(0, 8), mid(0, 16)},
		{last(8, 17), last(16, 17)}, // by one place, and the same end
		{mid(8, 24), last(16, 24)},
		{mid(8, 16), last(8, 16)},   // the same places, but one ends it
		{last(8, 16), last(8, 17)},  // ends elsewhere
		{last(8, 15), last(16, 16)}, // likewise, without a place of one that the other has
		{last(8, 8), last(8, 9)},
		{last(8, 8), last(16, 16)},
		{last(8, 11), last(16, 17)},
		{last(8, 11), last(800, 800)},
		{mid(8, 16), last(8, 8)}, // a place behind the end
		{mid(16, 24), last(8, 11)},
		{mid(16, 24), last(8, 16)},
		{mid(800, 808), last(8, 16)},
		{mid(8, 24), last(16, 16)},
		{mid(8, 24), last(16, 23)},
		{mid(0, 8), last(0, 0)},
	} {
		for _, pair := range [][2]api.Packet{pair, {pair[1], pair[0]}} {
			if same(pair[0], last(0, 0)) {
				continue // it is whole ahead of the other
			}
			p := with(t, pair[0])
			dropped(t, p, 6, pair[1])
			stands(t, p, 1, 60005)
			spoilt(t, p)
			dropped(t, p, 7, pair[0])
			ticks(t, p, 60004)
			stands(t, p, 1, 60005)
			ticks(t, p, 60005)
			stands(t, p, 0, never)
			taken(t, p, 60005, pair[0]) // its time is over: it is spoilt no more
			stands(t, p, 1, 120005)
		}
	}
}

// P13.2: those that touch, or end it at the same place.
func TestFits(t *testing.T) {
	for _, pair := range [][2]api.Packet{
		{mid(8, 16), mid(16, 24)}, {mid(8, 16), last(16, 16)}, {mid(8, 16), last(16, 17)},
		{mid(8, 16), mid(800, 808)}, {mid(8, 16), last(800, 808)}, {mid(0, 8), mid(16, 24)},
		{last(8, 16), last(16, 16)}, {mid(0, 16), mid(16, 32)}, {mid(0, 8), last(16, 24)},
	} {
		for _, pair := range [][2]api.Packet{pair, {pair[1], pair[0]}} {
			p := with(t, pair[0], pair[1])
			stands(t, p, 1, 60005)
			taken(t, p, 6, pair[0])
			taken(t, p, 6, pair[1])
		}
	}
	p := with(t, last(16, 16), last(8, 16))
	makes(t, p, 6, mid(0, 8), whole(16))
	p = with(t, mid(0, 8), last(16, 16))
	makes(t, p, 6, last(8, 16), whole(16))
	p = with(t, mid(0, 8), last(16, 16))
	makes(t, p, 6, mid(8, 16), whole(16))
}

// P13.2: the end, or a place, is held against all that came, not only against the newest one.
func TestAgainstAll(t *testing.T) {
	p := with(t, last(24, 29), mid(0, 8), mid(16, 24))
	dropped(t, p, 6, mid(32, 40))
	spoilt(t, p)
	p = with(t, mid(32, 40), mid(0, 8), mid(16, 24))
	dropped(t, p, 6, last(24, 29))
	spoilt(t, p)
	p = with(t, mid(8, 16), mid(0, 8), mid(32, 40))
	dropped(t, p, 6, mid(8, 24))
	spoilt(t, p)
}

// P13.2
func TestMaxParts(t *testing.T) {
	p := frags.New()
	for i := range 32 {
		taken(t, p, 5, mid(16*i, 16*i+8))
	}
	taken(t, p, 6, mid(16, 24)) // one of them again
	taken(t, p, 6, mid(496, 504))
	dropped(t, p, 6, mid(8, 16))
	spoilt(t, p)

	p = frags.New()
	for i := range 31 {
		taken(t, p, 5, mid(8*i, 8*i+8))
	}
	makes(t, p, 6, last(248, 251), whole(251)) // the last one that there may be

	p = frags.New()
	for i := range 32 {
		taken(t, p, 5, mid(8*i, 8*i+8))
	}
	dropped(t, p, 6, last(256, 256))
	spoilt(t, p)
}

// P13.2
func TestMaxFrags(t *testing.T) {
	p := frags.New()
	for id := range uint32(4) {
		taken(t, p, uint64(id), of(id, mid(0, 8)))
	}
	dropped(t, p, 5, of(4, mid(0, 8)))
	dropped(t, p, 5, of(4, last(0, 8))) // even one that would be whole at once
	stands(t, p, 4, 60000)
	taken(t, p, 5, of(2, mid(8, 16))) // of one that is there
	dropped(t, p, 5, of(1, mid(0, 16)))
	stands(t, p, 4, 60000)
	dropped(t, p, 5, of(4, mid(0, 8))) // the spoilt one counts
	makes(t, p, 6, of(3, last(8, 11)), whole(11))
	stands(t, p, 3, 60000)
	taken(t, p, 7, of(4, mid(0, 8)))
	stands(t, p, 4, 60000)
	dropped(t, p, 8, of(5, mid(0, 8)))
	ticks(t, p, 60000, of(0, mid(0, 8)))
	taken(t, p, 8, of(5, mid(0, 8)))
	ticks(t, p, 60001)
	stands(t, p, 3, 60002)
	taken(t, p, 9, of(1, mid(0, 8)))
	dropped(t, p, 9, of(0, mid(0, 8)))
}

// P13.2: a datagram is told by three things, and by no other.
func TestNames(t *testing.T) {
	x := mid(0, 8)
	from, to, id := x, x, of(8, x)
	from.Src[15]++
	to.Dst[0]++
	p := with(t, x, from, to, id)
	stands(t, p, 4, 60005)
	dropped(t, p, 6, mid(0, 16))
	for _, x := range []api.Packet{from, to, id} {
		y := last(8, 11)
		y.Src, y.Dst, y.Frag.ID = x.Src, x.Dst, x.Frag.ID
		want := whole(11)
		want.Src, want.Dst = x.Src, x.Dst
		makes(t, p, 7, y, want)
	}
	stands(t, p, 1, 60005)
	spoilt(t, p)

	swapped := x
	swapped.Src, swapped.Dst = x.Dst, x.Src
	p = with(t, x, swapped)
	stands(t, p, 2, 60005)
}

// P13.2: the same part again, and one that is another.
func TestAgain(t *testing.T) {
	x := mid(0, 8)
	other := x
	other.Hops, other.Alert, other.Next = 1, false, 99
	p := with(t, x)
	taken(t, p, 6, other)
	stands(t, p, 1, 60005)
	makes(t, p, 7, last(8, 11), whole(11)) // by the first one that came

	p = with(t, x, other)
	ticks(t, p, 60005, x)

	want := whole(11)
	want.Hops, want.Alert, want.Next = 1, false, 99
	p = with(t, other, x)
	makes(t, p, 7, last(8, 11), want)

	for i := range 8 {
		y := deep(x)
		y.Body[i]++
		p = with(t, x)
		dropped(t, p, 6, y)
		spoilt(t, p)
	}
	p = with(t, last(8, 8))
	nothing := last(8, 8)
	nothing.Body = nil
	taken(t, p, 6, nothing)
	dropped(t, p, 7, last(16, 16))
}

// P13.3, P13.4
func TestTimes(t *testing.T) {
	for _, now := range []uint64{0, 1, 5, never - 60001, never - 60000} {
		p := frags.New()
		taken(t, p, now, mid(0, 8))
		stands(t, p, 1, now+60000)
		taken(t, p, now+59999, mid(8, 16)) // a later part does not make its time longer
		stands(t, p, 1, now+60000)
		ticks(t, p, 0)
		ticks(t, p, now+59999)
		stands(t, p, 1, now+60000)
		ticks(t, p, now+60000, mid(0, 8))
		stands(t, p, 0, never)
		ticks(t, p, now+60000)
	}
	for _, now := range []uint64{never - 59999, never - 1, never, never + 1, top - 60000, top - 59999, top} {
		p := frags.New()
		taken(t, p, now, mid(0, 8))
		stands(t, p, 1, never)
		ticks(t, p, never-1)
		stands(t, p, 1, never)
		ticks(t, p, never, mid(0, 8))
		stands(t, p, 0, never)
	}
	p := frags.New()
	taken(t, p, 5, mid(0, 8))
	ticks(t, p, top, mid(0, 8))
	stands(t, p, 0, never)
}

// P13.2: Add lets time be: one whose time is over stays, till Tick.
func TestAddAlone(t *testing.T) {
	p := with(t, mid(0, 8))
	taken(t, p, 70000, mid(16, 24))
	stands(t, p, 1, 60005)
	taken(t, p, 1, last(24, 29))
	stands(t, p, 1, 60005)
	makes(t, p, 80000, mid(8, 16), whole(29))
}

// P13.3, P13.4
func TestTick(t *testing.T) {
	p := frags.New()
	taken(t, p, 30, of(1, mid(8, 16)))
	taken(t, p, 10, of(2, mid(0, 8)))
	taken(t, p, 20, of(3, mid(0, 16)))
	taken(t, p, 40, of(4, mid(0, 24)))
	stands(t, p, 4, 60010)
	taken(t, p, 50, of(1, mid(0, 8)))   // the later one of the datagram that came first
	dropped(t, p, 50, of(3, mid(0, 8))) // it is spoilt
	taken(t, p, 50, of(2, mid(16, 24)))
	ticks(t, p, 60009)
	stands(t, p, 4, 60010)
	ticks(t, p, 60039, of(1, mid(0, 8)), of(2, mid(0, 8))) // in the order in which they came
	stands(t, p, 1, 60040)
	taken(t, p, 60, of(2, mid(8, 16)))
	taken(t, p, 0, of(1, mid(0, 8)))
	stands(t, p, 3, 60000)
	ticks(t, p, top, of(4, mid(0, 24)), of(1, mid(0, 8))) // one has no first part
	stands(t, p, 0, never)
	ticks(t, p, top)
}

// P13.3: the first part alone is told, as it came, however many there are.
func TestTickTells(t *testing.T) {
	for _, l := range [][]api.Packet{{mid(0, 8), mid(8, 16), last(24, 29)}, {last(24, 29), mid(8, 16), mid(0, 8)}} {
		p := with(t, l...)
		ticks(t, p, 60005, mid(0, 8))
	}
	ticks(t, with(t, mid(8, 16), last(24, 29)), 60005)
	ticks(t, with(t, last(8, 8)), 60005)
}

// P13.3: of many that are over at once none is told twice, and none that stays is lost.
func TestTickSome(t *testing.T) {
	for set := range 16 {
		p := frags.New()
		var over []api.Packet
		for id := range uint32(4) {
			now := uint64(100)
			if set>>id&1 == 1 {
				now = 50
				over = append(over, of(id, mid(0, 8)))
			}
			taken(t, p, now, of(id, mid(0, 8)))
		}
		ticks(t, p, 60099, over...)
		if p.Len() != 4-len(over) {
			t.Fatal(set, p.Len())
		}
		for id := range uint32(4) {
			if set>>id&1 == 0 {
				makes(t, p, 200, of(id, last(8, 11)), whole(11))
			}
		}
		stands(t, p, 0, never)
	}
}

// R1, R4: nothing is shared with what was handed in, nor with what was answered.
func TestShared(t *testing.T) {
	p := frags.New()
	x, y := deep(mid(0, 8)), deep(mid(8, 16))
	taken(t, p, 5, x)
	taken(t, p, 5, y)
	taken(t, p, 5, of(9, x))
	if !same(x, mid(0, 8)) || !same(y, mid(8, 16)) {
		t.Fatal("a packet was changed")
	}
	clear(x.Body)
	clear(y.Body)
	taken(t, p, 5, mid(0, 8)) // the same again
	z := deep(last(16, 19))
	w, done, _ := p.Add(6, z)
	if !done || !same(w, whole(19)) || !same(z, last(16, 19)) {
		t.Fatal(w, done, z)
	}
	clear(z.Body)
	if !same(w, whole(19)) {
		t.Fatal("what was put together is shared with a part")
	}
	clear(w.Body)
	stands(t, p, 1, 60005)
	alone := deep(last(0, 8))
	if w, done, _ = p.Add(6, alone); !done {
		t.Fatal(w)
	}
	clear(alone.Body)
	if !same(w, whole(8)) {
		t.Fatal("one that is whole at once is shared")
	}
	l := p.Tick(60005)
	if len(l) != 1 || !same(l[0], of(9, mid(0, 8))) {
		t.Fatal(l)
	}
	clear(l[0].Body)
	l[0] = api.Packet{}
	taken(t, p, 7, of(9, mid(0, 8)))
	taken(t, p, 8, of(8, mid(0, 8)))
	l = p.Tick(60007)
	clear(l[0].Body)
	makes(t, p, 9, of(8, last(8, 11)), whole(11))
}

// R1: the room behind a body that was handed in stays as it is.
func TestRoom(t *testing.T) {
	room := upTo(64)
	x, y := mid(0, 8), last(8, 16)
	x.Body, y.Body = room[0:8:64], room[8:16:64]
	p := with(t, x)
	makes(t, p, 6, y, whole(16))
	if !bytes.Equal(room, upTo(64)) {
		t.Fatal(room)
	}
}

// P13.5: a datagram of any length, cut anywhere, in any order, with some parts again.
func TestCut(t *testing.T) {
	r := rand.New(rand.NewSource(1))
	for range 2000 {
		n := r.Intn(600)
		if r.Intn(20) == 0 {
			n = r.Intn(16385)
		}
		l := cut(r, n)
		r.Shuffle(len(l), func(i, j int) { l[i], l[j] = l[j], l[i] })
		p := frags.New()
		for i, x := range l[:len(l)-1] {
			taken(t, p, 5, x)
			taken(t, p, 6, l[r.Intn(i+1)])
		}
		makes(t, p, 7, l[len(l)-1], whole(n))
		stands(t, p, 0, never)
	}
}

// cut makes at most MaxParts parts of n bytes.
func cut(r *rand.Rand, n int) []api.Packet {
	var l []api.Packet
	from := 0
	for from+8 <= n && len(l) < 31 && r.Intn(8) > 0 {
		to := from + 8*(1+r.Intn(min(8, (n-from)/8)))
		l = append(l, mid(from, to))
		from = to
	}
	return append(l, last(from, n))
}

// P13.5: never is anything else put together: one place is missing, or stands over another one.
func TestMissing(t *testing.T) {
	r := rand.New(rand.NewSource(2))
	for range 2000 {
		l := cut(r, 8+r.Intn(400))
		gone := r.Intn(len(l))
		if len(l[gone].Body) == 0 {
			continue
		}
		p := frags.New()
		for i, x := range l {
			if i != gone {
				taken(t, p, 5, x)
			}
		}
		if len(l) > 1 {
			stands(t, p, 1, 60005)
		}
	}
}

// kinds of steps in a random run: small places, so that parts often overlap, touch or end.
func randomPart(r *rand.Rand) api.Packet {
	from := 8 * r.Intn(5)
	x := part(from, from+[]int{0, 7, 8, 8, 8, 9, 16, 24}[r.Intn(8)], r.Intn(3) > 0)
	x.Frag.ID = uint32(r.Intn(6))
	x.Hops = uint8(r.Intn(3))
	x.Src[0] = byte(r.Intn(8) / 7)
	x.Dst[0] = byte(r.Intn(8) / 7)
	if r.Intn(40) == 0 {
		x.Frag.Offset += uint16(2040 + r.Intn(10))
	}
	if r.Intn(60) == 0 {
		x.Frag.Is = false
	}
	if r.Intn(40) == 0 && len(x.Body) > 0 {
		x.Body[r.Intn(len(x.Body))]++
	}
	return x
}

// The pool answers just as the plain one does, whatever comes.
func TestAsPlain(t *testing.T) {
	r := rand.New(rand.NewSource(3))
	made := 0
	for run := range 1000 {
		p, q := frags.New(), &plainPool{}
		now := uint64(0)
		if run%10 == 0 {
			now = never - 200000
		}
		for step := range 100 {
			now += uint64(r.Intn(3000))
			x := randomPart(r)
			a, aDone, aDropped := p.Add(now, x)
			b, bDone, bDropped := q.Add(now, x)
			if !same(a, b) || aDone != bDone || aDropped != bDropped {
				t.Fatal(run, step, x, a, aDone, aDropped, b, bDone, bDropped)
			}
			if aDone {
				made++
			}
			if r.Intn(10) == 0 {
				ticks(t, p, now, q.Tick(now)...)
			}
			stands(t, p, q.Len(), q.Next())
		}
	}
	if made < 500 {
		t.Fatal("too few were whole:", made)
	}
}
