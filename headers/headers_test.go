package headers_test

import (
	"bytes"
	"math"
	"math/rand"
	"reflect"
	"slices"
	"testing"

	"sojourner/api"
	"sojourner/headers"
)

var (
	one  = api.Addr{0xfe, 0x80, 2, 3, 4, 5, 6, 7, 8, 9, 10, 11, 12, 13, 14, 15}
	two  = api.Addr{0x20, 1, 22, 23, 24, 25, 26, 27, 28, 29, 30, 31, 32, 33, 34, 35}
	many = api.Addr{0xff, 2, 42, 43, 44, 45, 46, 47, 48, 49, 50, 51, 52, 53, 54, 55}
)

// numbers are those of headers.
var numbers = []uint8{0, 43, 44, 59, 60}

// told is what Chain answers.
type told struct {
	last  uint8
	rest  []byte
	alert bool
	frag  api.Frag
	fault api.Fault
	e     api.Errno
}

func chain(next uint8, b []byte, at uint32, multicast bool) (a told) {
	a.last, a.rest, a.alert, a.frag, a.fault, a.e = headers.Chain(next, b, at, multicast)
	return a
}

func same(a, b told) bool {
	r := bytes.Equal(a.rest, b.rest)
	a.rest, b.rest = nil, nil
	return r && reflect.DeepEqual(a, b)
}

// wantChain tells a fault, if a chain comes to something else, has room behind, or changed what was handed in.
func wantChain(t *testing.T, next uint8, b []byte, at uint32, multicast bool, want told) {
	t.Helper()
	was := slices.Clone(b)
	a := chain(next, b, at, multicast)
	if !same(a, want) {
		t.Errorf("Chain(%d, %v, %d, %v) = %+v, not %+v", next, b, at, multicast, a, want)
	}
	if cap(a.rest) != len(a.rest) {
		t.Errorf("Chain(%d, %v, %d, %v): room of %d behind", next, b, at, multicast, cap(a.rest)-len(a.rest))
	}
	if !bytes.Equal(b, was) {
		t.Errorf("Chain(%d, ..) made %v out of %v", next, b, was)
	}
}

func blamed(code uint8, at uint32) told {
	return told{fault: api.Fault{Code: code, At: at}, e: api.ErrFault}
}

func alerted(a told) told {
	a.alert = true
	return a
}

func failed(e api.Errno) told { return told{e: e} }

func ended(last uint8, rest ...byte) told { return told{last: last, rest: rest} }

// opts is a header of options, filled up by bytes that are options alone.
func opts(next uint8, b ...byte) []byte {
	for (len(b)+2)%8 != 0 {
		b = append(b, 0)
	}
	return append([]byte{next, byte((len(b)+2)/8 - 1)}, b...)
}

// wide is a header of options that has sixteen bytes.
func wide(next uint8) []byte { return opts(next, append([]byte{1, 10}, make([]byte, 12)...)...) }

func join(l ...[]byte) []byte { return bytes.Join(l, nil) }

// upTo is n bytes that differ from those beside them, and from those a byte's round away.
func upTo(n int) []byte {
	b := make([]byte, n)
	for i := range b {
		b[i] = byte(i + 1 + i/256)
	}
	return b
}

// plainPut is a packet's bytes by the chapter's words, one behind the other.
func plainPut(p api.Packet) []byte {
	var behind []byte
	first := p.Next
	if p.Alert {
		first = 0
		follows := p.Next
		if p.Frag.Is {
			follows = 44
		}
		behind = append(behind, follows, 0, 5, 2, 0, 0, 1, 0)
	}
	if p.Frag.Is {
		if !p.Alert {
			first = 44
		}
		where := int(p.Frag.Offset) * 8
		if p.Frag.More {
			where++
		}
		id := p.Frag.ID
		behind = append(behind, p.Next, 0, byte(where/256), byte(where%256), byte(id>>24), byte(id>>16), byte(id>>8), byte(id))
	}
	behind = append(behind, p.Body...)
	b := []byte{96, 0, 0, 0, byte(len(behind) / 256), byte(len(behind) % 256), first, p.Hops}
	for _, x := range p.Src {
		b = append(b, x)
	}
	for _, x := range p.Dst {
		b = append(b, x)
	}
	return append(b, behind...)
}

// plainOptions judges a header's options: b[from:to], whose first byte is at a place.
func plainOptions(number uint8, b []byte, at int, multicast bool, alert *bool) (api.Fault, api.Errno) {
	for i := 0; i < len(b); {
		if b[i] == 0 {
			i++
			continue
		}
		if i+1 >= len(b) || i+2+int(b[i+1]) > len(b) {
			return api.Fault{}, api.ErrForm
		}
		fault := api.Fault{Code: 2, At: held(at + i)}
		switch {
		case b[i] == 1:
		case b[i] == 5 && b[i+1] == 2 && number == 0:
			*alert = true
		case b[i] < 64:
		case b[i] < 128:
			return api.Fault{}, api.ErrDrop
		case b[i] < 192:
			return fault, api.ErrFault
		case multicast:
			return api.Fault{}, api.ErrDrop
		default:
			return fault, api.ErrFault
		}
		i += 2 + int(b[i+1])
	}
	return api.Fault{}, api.OK
}

func held(at int) uint32 { return uint32(min(at, math.MaxUint32)) }

// plainChain goes through a chain by the chapter's words, place by place.
func plainChain(next uint8, b []byte, begin uint32, multicast bool) (a told) {
	at, who, first, alert := int(begin), max(int(begin)-8, 0), true, false
	if at == 40 {
		who = 6
	}
	for {
		long := 8
		switch {
		case next == 0 && !(first && at == 40):
			return told{fault: api.Fault{Code: 1, At: held(who)}, e: api.ErrFault, alert: alert}
		case next == 0 || next == 60 || next == 43:
			if len(b) < 2 || len(b) < (int(b[1])+1)*8 {
				return failed(api.ErrShort)
			}
			long = (int(b[1]) + 1) * 8
			if next == 43 {
				if b[3] != 0 {
					return told{fault: api.Fault{At: held(at + 3)}, e: api.ErrFault, alert: alert}
				}
				break
			}
			if f, e := plainOptions(next, b[2:long], at+2, multicast, &alert); e != 0 {
				return told{fault: f, e: e, alert: alert && e == api.ErrFault}
			}
		case next == 44:
			if len(b) < 8 {
				return failed(api.ErrShort)
			}
			where := int(b[2])*256 + int(b[3])
			if where/8 != 0 || where%2 != 0 {
				id := uint32(b[4])<<24 + uint32(b[5])<<16 + uint32(b[6])<<8 + uint32(b[7])
				f := api.Frag{Is: true, ID: id, Offset: uint16(where / 8), More: where%2 == 1}
				return told{last: b[0], rest: b[8:], alert: alert, frag: f}
			}
		case next == 59:
			return told{last: 59, alert: alert}
		default:
			return told{last: next, rest: b, alert: alert}
		}
		next, b, who, at, first = b[0], b[long:], at, at+long, false
	}
}

// plainGet is a packet out of bytes by the chapter's words.
func plainGet(b []byte) (p api.Packet, fault api.Fault, e api.Errno) {
	if len(b) < 40 {
		return p, fault, api.ErrShort
	}
	if b[0] < 96 || b[0] > 111 {
		return p, fault, api.ErrForm
	}
	n := int(b[4])*256 + int(b[5])
	if len(b)-40 < n {
		return p, fault, api.ErrShort
	}
	a := plainChain(b[6], b[40:40+n], 40, b[24] == 255)
	if a.e != 0 && a.e != api.ErrFault {
		return p, fault, a.e
	}
	p = api.Packet{Hops: b[7], Alert: a.alert, Frag: a.frag, Next: a.last, Body: a.rest}
	for i := range 16 {
		p.Src[i], p.Dst[i] = b[8+i], b[24+i]
	}
	return p, a.fault, a.e
}

func samePacket(p, q api.Packet) bool {
	r := bytes.Equal(p.Body, q.Body)
	p.Body, q.Body = nil, nil
	return r && reflect.DeepEqual(p, q)
}

// wantPut tells a fault, if a packet's bytes are other ones, have room behind, or the body was changed.
func wantPut(t *testing.T, p api.Packet, want []byte) {
	t.Helper()
	was := slices.Clone(p.Body)
	b, e := headers.Put(p)
	if e != api.OK || !bytes.Equal(b, want) {
		t.Errorf("Put(%+v) = %v, %v, not %v", p, b, e, want)
	}
	if cap(b) != len(b) {
		t.Errorf("Put(%+v): room of %d behind", p, cap(b)-len(b))
	}
	if !bytes.Equal(p.Body, was) {
		t.Errorf("Put made the body %v out of %v", p.Body, was)
	}
}

// wantGet tells a fault, if bytes come to something else, with room behind, or were changed.
func wantGet(t *testing.T, b []byte, want api.Packet, fault api.Fault, e api.Errno) {
	t.Helper()
	was := slices.Clone(b)
	p, f, g := headers.Get(b)
	if !samePacket(p, want) || f != fault || g != e {
		t.Errorf("Get(%v) = %+v, %v, %v, not %+v, %v, %v", b, p, f, g, want, fault, e)
	}
	if cap(p.Body) != len(p.Body) {
		t.Errorf("Get(%v): room of %d behind", b, cap(p.Body)-len(p.Body))
	}
	if !bytes.Equal(b, was) {
		t.Errorf("Get made %v out of %v", b, was)
	}
}

// The examples of the chapter.
func TestExamples(t *testing.T) {
	b := append(append([]byte{96, 0, 0, 0, 0, 2, 58, 255}, make([]byte, 32)...), 1, 2)
	wantPut(t, api.Packet{Next: 58, Hops: 255, Body: []byte{1, 2}}, b)
	wantChain(t, 60, []byte{59, 0, 1, 4, 0, 0, 0, 0}, 40, false, ended(59))
	alert := []byte{58, 0, 5, 2, 0, 0, 1, 0, 7}
	wantChain(t, 0, alert, 40, true, alerted(ended(58, 7)))
	wantChain(t, 0, alert, 48, true, blamed(1, 40))
	odd := []byte{58, 0, 194, 4, 0, 0, 0, 0}
	wantChain(t, 60, odd, 48, false, blamed(2, 50))
	wantChain(t, 60, odd, 48, true, failed(api.ErrDrop))
	wantChain(t, 43, []byte{58, 0, 0, 1, 0, 0, 0, 0}, 40, false, blamed(0, 43))
}

// P9.1: the fixed header, and the headers that alert and part ask for, in that order.
func TestPut(t *testing.T) {
	ends := append(append([]byte{}, one[:]...), two[:]...)
	p := api.Packet{Src: one, Dst: two, Hops: 64, Next: 17, Body: []byte{7, 8, 9}}
	wantPut(t, p, join([]byte{96, 0, 0, 0, 0, 3, 17, 64}, ends, []byte{7, 8, 9}))
	p.Alert = true
	wantPut(t, p, join([]byte{96, 0, 0, 0, 0, 11, 0, 64}, ends, []byte{17, 0, 5, 2, 0, 0, 1, 0, 7, 8, 9}))
	p.Frag = api.Frag{Is: true, ID: 0x01020304, Offset: 0x123, More: true}
	wantPut(t, p, join([]byte{96, 0, 0, 0, 0, 19, 0, 64}, ends, []byte{44, 0, 5, 2, 0, 0, 1, 0, 17, 0, 9, 25, 1, 2, 3, 4, 7, 8, 9}))
	p.Alert, p.Frag.More = false, false
	wantPut(t, p, join([]byte{96, 0, 0, 0, 0, 11, 44, 64}, ends, []byte{17, 0, 9, 24, 1, 2, 3, 4, 7, 8, 9}))
}

// P9.1: a packet that is no part has none, whatever else its Frag tells.
func TestPutNoPart(t *testing.T) {
	p := api.Packet{Src: one, Dst: two, Next: 6, Body: []byte{1}}
	for _, f := range []api.Frag{{ID: 7}, {Offset: 3}, {More: true}, {Offset: 8192}, {ID: 1, Offset: 65535, More: true}} {
		p.Frag = f
		wantPut(t, p, plainPut(api.Packet{Src: one, Dst: two, Next: 6, Body: []byte{1}}))
	}
}

// P9.1: nothing where a body is awaited, and every number of what follows, a header's too, which is told as it is.
func TestPutEveryNext(t *testing.T) {
	for i := range 256 * 4 {
		p := api.Packet{Src: two, Dst: many, Hops: uint8(i), Next: uint8(i / 4), Alert: i%2 == 1}
		p.Frag.Is = i%4 >= 2
		wantPut(t, p, plainPut(p))
		if i%8 == 3 {
			p.Body = []byte{}
			wantPut(t, p, plainPut(p))
		}
	}
}

// P9.1: 65535 bytes behind the fixed header may be, whatever they are; one more may not.
func TestPutMost(t *testing.T) {
	for i, heads := range []int{0, 8, 8, 16} {
		p := api.Packet{Src: one, Dst: two, Next: 17, Alert: i&1 != 0, Frag: api.Frag{Is: i&2 != 0, Offset: 5}}
		for _, n := range []int{65527, 65534, 65535 - heads - 1, 65535 - heads, 65535 - heads + 1, 65536, 1 << 17, 65536 + 3} {
			p.Body = upTo(n)
			if n+heads <= 65535 {
				wantPut(t, p, plainPut(p))
				continue
			}
			if b, e := headers.Put(p); b != nil || e != api.ErrLimit {
				t.Errorf("Put of %d behind %d = %d bytes, %v", n, heads, len(b), e)
			}
		}
	}
}

// P9.1: a part begins at 8191 at most.
func TestPutOffset(t *testing.T) {
	for _, at := range []uint16{0, 1, 255, 256, 4096, 8190, 8191, 8192, 8193, 16384, 32768, 65535} {
		for _, more := range []bool{false, true} {
			for _, alert := range []bool{false, true} {
				p := api.Packet{Next: 6, Alert: alert, Frag: api.Frag{Is: true, ID: 1 << 31, Offset: at, More: more}, Body: []byte{3}}
				if at <= 8191 {
					wantPut(t, p, plainPut(p))
					continue
				}
				if b, e := headers.Put(p); b != nil || e != api.ErrLimit {
					t.Errorf("Put of a part at %d = %v, %v", at, b, e)
				}
			}
		}
	}
}

// P9.2: the fixed header's fields.
func TestGet(t *testing.T) {
	b := join([]byte{0x6f, 1, 2, 3, 0, 3, 17, 64}, one[:], two[:], []byte{7, 8, 9})
	p := api.Packet{Src: one, Dst: two, Hops: 64, Next: 17, Body: []byte{7, 8, 9}}
	wantGet(t, b, p, api.Fault{}, api.OK)
	wantGet(t, append(b, 10, 11), p, api.Fault{}, api.OK)
	b[6], p.Next, p.Body = 59, 59, nil
	wantGet(t, b, p, api.Fault{}, api.OK)
}

// P9.2: fewer than 40 bytes are too short, ahead of all else; then the first byte's higher half counts.
func TestGetFixedHeader(t *testing.T) {
	whole := join([]byte{96, 0, 0, 0, 0, 0, 17, 64}, one[:], two[:])
	wantGet(t, nil, api.Packet{}, api.Fault{}, api.ErrShort)
	for n := range 40 {
		wantGet(t, whole[:n:n], api.Packet{}, api.Fault{}, api.ErrShort)
		wantGet(t, make([]byte, n), api.Packet{}, api.Fault{}, api.ErrShort)
	}
	wantGet(t, whole, api.Packet{Src: one, Dst: two, Hops: 64, Next: 17}, api.Fault{}, api.OK)
	for first := range 256 {
		for _, n := range []byte{0, 5} {
			b := slices.Clone(whole)
			b[0], b[5] = byte(first), n
			switch {
			case first/16 != 6:
				wantGet(t, b, api.Packet{}, api.Fault{}, api.ErrForm)
			case n > 0:
				wantGet(t, b, api.Packet{}, api.Fault{}, api.ErrShort)
			default:
				wantGet(t, b, api.Packet{Src: one, Dst: two, Hops: 64, Next: 17}, api.Fault{}, api.OK)
			}
		}
	}
}

// P9.2: as many bytes count as the fixed header tells: fewer are too short, more are of nobody.
func TestGetLength(t *testing.T) {
	for _, n := range []int{0, 1, 2, 255, 256, 257, 1280, 65534, 65535} {
		p := api.Packet{Src: one, Dst: two, Hops: 1, Next: 6, Body: upTo(n)}
		b := plainPut(p)
		if n > 0 {
			wantGet(t, b[:len(b)-1], api.Packet{}, api.Fault{}, api.ErrShort)
			wantGet(t, b[:40], api.Packet{}, api.Fault{}, api.ErrShort)
		}
		wantGet(t, b, p, api.Fault{}, api.OK)
		wantGet(t, append(b, upTo(300)...), p, api.Fault{}, api.OK)
	}
	// The header goes beyond what the fixed one tells, though its bytes are there.
	b := plainPut(api.Packet{Src: one, Dst: two, Next: 60, Body: opts(59)})
	b[5] = 7
	wantGet(t, b, api.Packet{}, api.Fault{}, api.ErrShort)
}

// P9.2: with ErrFault Src, Dst, Hops and Alert alone are told; with another error nothing; by Dst it is judged whether the packet is for many.
func TestGetFaults(t *testing.T) {
	alert := []byte{5, 2, 0, 0}
	for _, dst := range []api.Addr{one, two, many, {}, {0xfe, 255}, {255}, {0, 255}} {
		odd := opts(17, append(alert, 200, 0)...)
		b := plainPut(api.Packet{Src: two, Dst: dst, Hops: 9, Next: 0, Body: append(odd, 5)})
		if dst[0] == 255 {
			wantGet(t, b, api.Packet{}, api.Fault{}, api.ErrDrop)
		} else {
			wantGet(t, b, api.Packet{Src: two, Dst: dst, Hops: 9, Alert: true}, api.Fault{Code: 2, At: 46}, api.ErrFault)
		}
		b = plainPut(api.Packet{Src: two, Dst: dst, Hops: 9, Next: 0, Body: opts(17, append([]byte{140, 0}, alert...)...)})
		wantGet(t, b, api.Packet{Src: two, Dst: dst, Hops: 9}, api.Fault{Code: 2, At: 42}, api.ErrFault)
		b = plainPut(api.Packet{Src: two, Dst: dst, Hops: 9, Next: 60, Body: join(opts(0), opts(17))})
		wantGet(t, b, api.Packet{Src: two, Dst: dst, Hops: 9}, api.Fault{Code: 1, At: 40}, api.ErrFault)
		b = plainPut(api.Packet{Src: two, Dst: dst, Hops: 9, Alert: true, Next: 43, Body: []byte{6, 0, 4, 1, 0, 0, 0, 0, 9}})
		wantGet(t, b, api.Packet{Src: two, Dst: dst, Hops: 9, Alert: true}, api.Fault{Code: 0, At: 51}, api.ErrFault)
		b = plainPut(api.Packet{Src: two, Dst: dst, Hops: 9, Alert: true, Next: 60, Body: opts(17, 1, 5)})
		wantGet(t, b, api.Packet{}, api.Fault{}, api.ErrForm)
		b = plainPut(api.Packet{Src: two, Dst: dst, Hops: 9, Alert: true, Next: 60, Body: opts(17, 64, 0)})
		wantGet(t, b, api.Packet{}, api.Fault{}, api.ErrDrop)
		b = plainPut(api.Packet{Src: two, Dst: dst, Hops: 9, Alert: true, Next: 44, Body: upTo(7)})
		wantGet(t, b, api.Packet{}, api.Fault{}, api.ErrShort)
	}
}

// P9.2: alert and part are told as the chain has them.
func TestGetParts(t *testing.T) {
	p := api.Packet{Src: one, Dst: many, Hops: 3, Alert: true, Next: 43, Frag: api.Frag{Is: true, ID: 9, Offset: 2}, Body: []byte{1, 2}}
	wantGet(t, plainPut(p), p, api.Fault{}, api.OK)
	p.Frag = api.Frag{Is: true, ID: 1<<32 - 1, More: true}
	wantGet(t, plainPut(p), p, api.Fault{}, api.OK)
	// All of a datagram is told as no part.
	p.Frag, p.Next = api.Frag{Is: true, ID: 5}, 17
	q := p
	q.Frag = api.Frag{}
	wantGet(t, plainPut(p), q, api.Fault{}, api.OK)
}

// P9.3: a number that is no header's ends the chain with all the bytes, 59 with none, nothing handed in included.
func TestChainEnds(t *testing.T) {
	for n := range 256 {
		next := uint8(n)
		if slices.Contains(numbers, next) {
			continue
		}
		for _, at := range []uint32{0, 40, 48, math.MaxUint32} {
			wantChain(t, next, nil, at, false, ended(next))
			wantChain(t, next, []byte{0, 1, 2}, at, true, ended(next, 0, 1, 2))
			wantChain(t, 60, opts(next), at, false, ended(next))
			wantChain(t, 60, append(opts(next), 44, 0), at, false, ended(next, 44, 0))
		}
	}
	for _, b := range [][]byte{nil, {}, {1}, {0, 0}, upTo(100)} {
		wantChain(t, 59, b, 40, false, ended(59))
		wantChain(t, 60, append(opts(59), b...), 40, false, ended(59))
		wantChain(t, 0, append(opts(59, 5, 2, 0, 0), b...), 40, false, alerted(ended(59)))
	}
}

// P9.3: a header 0 may stand at 40 as the first one, and nowhere else, whatever its bytes are.
func TestChainHops(t *testing.T) {
	places := map[uint32]uint32{0: 0, 1: 0, 7: 0, 8: 0, 9: 1, 16: 8, 32: 24, 39: 31, 41: 33, 48: 40, 1 << 31: 1<<31 - 8, math.MaxUint32: math.MaxUint32 - 8}
	for at, who := range places {
		for _, b := range [][]byte{nil, {17}, opts(17), opts(17, 200, 0), {17, 9}} {
			wantChain(t, 0, b, at, false, blamed(1, who))
			wantChain(t, 0, b, at, true, blamed(1, who))
		}
	}
	wantChain(t, 0, opts(17), 40, false, ended(17))
	wantChain(t, 0, nil, 40, false, failed(api.ErrShort))
	// The second one is told by the first byte of the header ahead of it, at 40 too.
	wantChain(t, 0, join(opts(0), opts(17)), 40, false, blamed(1, 40))
	wantChain(t, 60, join(opts(0), opts(17)), 32, false, blamed(1, 32))
	wantChain(t, 60, opts(0), 40, false, blamed(1, 40))
	wantChain(t, 43, []byte{0, 0, 9, 0, 0, 0, 0, 0}, 24, false, blamed(1, 24))
	wantChain(t, 44, make([]byte, 8), 100, true, blamed(1, 100))
	wantChain(t, 60, join(wide(43), []byte{0, 0, 0, 7: 0}), 40, false, blamed(1, 56))
	wantChain(t, 0, join(opts(60, 5, 2, 0, 0), opts(0)), 40, false, alerted(blamed(1, 48)))
}

// P9.3: headers that are cut short anywhere.
func TestChainShort(t *testing.T) {
	long := opts(17, append([]byte{1, 18}, make([]byte, 18)...)...)
	for _, next := range []uint8{0, 43, 60} {
		for _, whole := range [][]byte{opts(17), long, opts(17, make([]byte, 2046)...)} {
			if next == 43 {
				whole = slices.Clone(whole)
				whole[3] = 0
			}
			for n := range len(whole) {
				wantChain(t, next, whole[:n:n], 40, false, failed(api.ErrShort))
			}
			wantChain(t, next, whole, 40, false, ended(17))
			wantChain(t, next, append(whole, 3), 40, false, ended(17, 3))
		}
	}
	part := []byte{17, 0, 0, 8, 1, 2, 3, 4}
	for n := range part {
		wantChain(t, 44, part[:n:n], 40, false, failed(api.ErrShort))
		wantChain(t, 60, append(opts(44), part[:n]...), 40, false, failed(api.ErrShort))
		wantChain(t, 0, append(opts(44, 5, 2, 0, 0), part[:n]...), 40, false, failed(api.ErrShort))
	}
	// That a route is one goes ahead of what it tells.
	wantChain(t, 43, []byte{17, 0, 0, 1}, 40, false, failed(api.ErrShort))
	wantChain(t, 43, []byte{17, 1, 0, 1, 0, 0, 0, 0}, 40, false, failed(api.ErrShort))
	// So do options that were bad, had the header been there.
	wantChain(t, 60, []byte{17, 1, 200, 0, 0, 0, 0, 0}, 40, false, failed(api.ErrShort))
}

// P9.3: options of every kind, by their two highest bits, in both headers, for one and for many.
func TestChainOptions(t *testing.T) {
	for kind := 1; kind < 256; kind++ {
		for size := range 12 {
			for _, next := range []uint8{0, 60} {
				b := opts(17, append([]byte{0, 1, 1, 0, byte(kind), byte(size)}, make([]byte, size)...)...)
				want := ended(17)
				if kind == 5 && size == 2 && next == 0 {
					want = alerted(want)
				}
				wantMany := want
				switch kind / 64 {
				case 1:
					want, wantMany = failed(api.ErrDrop), failed(api.ErrDrop)
				case 2:
					want, wantMany = blamed(2, 46), blamed(2, 46)
				case 3:
					want, wantMany = blamed(2, 46), failed(api.ErrDrop)
				}
				wantChain(t, next, b, 40, false, want)
				wantChain(t, next, b, 40, true, wantMany)
			}
		}
	}
	wantChain(t, 60, opts(17), 40, false, ended(17))
}

// P9.3: options that go beyond their header; each is judged when its turn comes.
func TestChainOptionsBeyond(t *testing.T) {
	for _, kind := range []byte{1, 2, 5, 63, 64, 127, 128, 191, 192, 255} {
		for _, next := range []uint8{0, 60} {
			// Its length, or its bytes, are in the header behind.
			wantChain(t, next, append(opts(17, 0, 0, 0, 0, 0, kind), 0, 0), 40, false, failed(api.ErrForm))
			wantChain(t, next, append(opts(17, 0, 0, 0, 0, kind, 1), 0, 0), 40, false, failed(api.ErrForm))
			wantChain(t, next, append(opts(17, kind, 5, 0, 0, 0, 0), 0, 0), 40, true, failed(api.ErrForm))
			wantChain(t, next, append(opts(17, kind, 255, 0, 0, 0, 0), upTo(300)...), 40, true, failed(api.ErrForm))
		}
	}
	wantChain(t, 60, opts(17, 64, 0, 9, 99), 40, false, failed(api.ErrDrop))
	wantChain(t, 60, opts(17, 9, 1, 1, 9, 99), 40, false, failed(api.ErrForm))
	wantChain(t, 60, opts(17, 130, 0, 9, 99), 40, true, blamed(2, 42))
	wantChain(t, 0, opts(17, 5, 2, 0, 0, 9, 99), 40, false, failed(api.ErrForm))
	wantChain(t, 60, opts(17, 9, 0, 64, 0, 130, 0), 40, true, failed(api.ErrDrop))
	wantChain(t, 60, opts(17, 9, 0, 130, 0, 64, 0), 40, true, blamed(2, 44))
}

// P9.3: the alert counts with two bytes, in a header 0; with ErrFault only what stands ahead of the fault counts.
func TestChainAlert(t *testing.T) {
	wantChain(t, 0, opts(17, 5, 2, 1, 7), 40, false, alerted(ended(17)))
	wantChain(t, 0, opts(17, 5, 2, 0, 0, 5, 0), 40, false, alerted(ended(17)))
	wantChain(t, 0, opts(17, 5, 1, 0), 40, false, ended(17))
	wantChain(t, 0, opts(17, 5, 3, 0, 0, 0), 40, false, ended(17))
	wantChain(t, 60, opts(17, 5, 2, 0, 0), 40, false, ended(17))
	wantChain(t, 60, opts(17, 5, 2, 0, 0), 48, true, ended(17))
	wantChain(t, 0, join(opts(60), opts(17, 5, 2, 0, 0)), 40, false, ended(17))
	wantChain(t, 0, join(opts(60, 5, 2, 0, 0), opts(17, 4, 4)), 40, false, alerted(ended(17)))
	wantChain(t, 0, opts(17, 5, 2, 0, 0, 130, 0), 40, false, alerted(blamed(2, 46)))
	wantChain(t, 0, opts(17, 130, 0, 5, 2, 0, 0), 40, false, blamed(2, 42))
	wantChain(t, 0, opts(17, 5, 2, 0, 0, 64, 0), 40, false, failed(api.ErrDrop))
	wantChain(t, 0, join(opts(43, 5, 2, 0, 0), []byte{17, 0, 0, 255, 0, 0, 0, 0}), 40, false, alerted(blamed(0, 51)))
	wantChain(t, 0, join(opts(44, 5, 2, 0, 0), []byte{17, 0, 0, 1, 0, 0, 0, 7, 8}), 40, false,
		told{last: 17, rest: []byte{8}, alert: true, frag: api.Frag{Is: true, ID: 7, More: true}})
}

// P9.3: a route whose fourth byte is 0 is over; another one is a fault.
func TestChainRoute(t *testing.T) {
	for left := range 256 {
		for _, at := range []uint32{0, 40, 56} {
			want := ended(17, 9)
			if left > 0 {
				want = blamed(0, at+3)
			}
			wantChain(t, 43, []byte{17, 0, 1, byte(left), 2, 3, 4, 5, 9}, at, left%2 == 0, want)
			want = ended(6)
			if left > 0 {
				want = blamed(0, at+16+3)
			}
			wantChain(t, 60, append(wide(43), append([]byte{6, 1, 200, byte(left)}, upTo(12)...)...), at, false, want)
		}
	}
}

// P9.3: what is all of a datagram is over; a part ends the chain, and what follows it is not gone through.
func TestChainPart(t *testing.T) {
	for where := range 1 << 16 {
		if where > 64 && where < 1<<16-64 && where%251 != 0 {
			continue
		}
		for _, next := range append(numbers, 17) {
			b := []byte{next, 99, byte(where >> 8), byte(where), 1, 2, 3, 4, 17, 200, 3}
			f := api.Frag{Is: true, ID: 0x01020304, Offset: uint16(where >> 3), More: where&1 == 1}
			want := told{last: next, rest: []byte{17, 200, 3}, frag: f}
			if where&^6 == 0 {
				want = plainChain(next, b[8:], 48, false)
				if next == 0 {
					want = blamed(1, 40)
				}
			}
			wantChain(t, 44, b, 40, false, want)
		}
	}
	wantChain(t, 44, []byte{17, 0, 0, 1, 255, 254, 253, 252}, 40, false, told{last: 17, frag: api.Frag{Is: true, ID: 0xfffefdfc, More: true}})
	wantChain(t, 44, []byte{17, 0, 0, 6, 255, 254, 253, 252, 5}, 40, false, ended(17, 5))
}

// P9.3: places that are more than a fault can tell are held there.
func TestChainPlaces(t *testing.T) {
	const most = math.MaxUint32
	for i := range uint32(40) {
		at := most - i
		wantChain(t, 60, opts(17, 130, 0), at, false, blamed(2, uint32(min(uint64(at)+2, most))))
		wantChain(t, 43, []byte{17, 0, 0, 1, 0, 0, 0, 0}, at, false, blamed(0, uint32(min(uint64(at)+3, most))))
		wantChain(t, 60, opts(0), at, false, blamed(1, at))
		wantChain(t, 60, join(opts(60), opts(0)), at, false, blamed(1, uint32(min(uint64(at)+8, most))))
		wantChain(t, 60, join(opts(60), opts(60), opts(43), []byte{0, 0, 0, 9, 0, 0, 0, 0}), at, false, blamed(0, uint32(min(uint64(at)+27, most))))
	}
	// What is forty beyond the end is not the place behind the fixed header.
	wantChain(t, 60, join(wide(60), wide(60), wide(60), opts(0), opts(17)), most-7, false, blamed(1, most))
	for at := range uint32(20) {
		wantChain(t, 60, opts(17, 130, 0), at, false, blamed(2, at+2))
		wantChain(t, 0, opts(17), at, false, blamed(1, uint32(max(int(at)-8, 0))))
		wantChain(t, 60, opts(0), at, false, blamed(1, at))
	}
}

// R1: chains as long as they like, and numbers that stand for themselves.
func TestChainLong(t *testing.T) {
	b := bytes.Repeat(opts(60), 1<<16)
	wantChain(t, 60, b, 40, false, failed(api.ErrShort))
	wantChain(t, 60, append(b, opts(6)...), 40, true, ended(6))
	wantChain(t, 60, append(b, opts(0)...), 40, true, blamed(1, 40+8<<16))
	wantChain(t, 60, append(b, opts(60, 200, 0)...), 40, false, blamed(2, 40+8<<16+2))
	wantChain(t, 44, make([]byte, 80), 40, false, blamed(1, 40))
	wantChain(t, 43, bytes.Repeat([]byte{43, 0, 0, 0, 0, 0, 0, 0}, 100), 40, false, failed(api.ErrShort))
}

// R1 and R4: what is handed in, and what is handed out, is nobody else's.
func TestShared(t *testing.T) {
	body := []byte{1, 2, 3}
	p := api.Packet{Src: one, Dst: two, Alert: true, Next: 17, Body: body}
	b, _ := headers.Put(p)
	was := slices.Clone(b)
	body[0] = 99
	if !bytes.Equal(b, was) {
		t.Error("the body is shared with what was put")
	}
	b[48] = 98
	if body[0] != 99 {
		t.Error("what was put is shared with the body")
	}
	q, _, _ := headers.Get(b)
	b[48] = 97
	if q.Body[0] != 98 {
		t.Error("the bytes are shared with what was got")
	}
	q.Body[1] = 96
	if b[49] != 2 {
		t.Error("what was got is shared with the bytes")
	}
	first, second := chain(17, b, 40, false), chain(17, b, 40, false)
	first.rest[0], b[1] = 95, 94
	if b[0] == 95 || second.rest[0] == 95 || second.rest[1] == 94 {
		t.Error("what a chain answers is shared")
	}
	part := []byte{17, 0, 0, 1, 0, 0, 0, 0, 5, 6}
	f := chain(44, part, 40, false)
	f.rest[0] = 77
	if part[8] != 5 {
		t.Error("a part's bytes are shared")
	}
	wide := append(make([]byte, 0, 100), 1, 2, 3)
	_ = append(chain(17, wide, 40, false).rest, 55)
	if wide[:4][3] != 0 {
		t.Error("who appends to an answer writes behind what was handed in")
	}
}

// chanceChain is bytes that are headers mostly, with a fault or a cut now and then.
func chanceChain(r *rand.Rand) (next uint8, b []byte) {
	follows := []uint8{17, 58, 59, 6}[r.Intn(4)]
	b = upTo(r.Intn(5))
	for range r.Intn(6) {
		switch number := numbers[r.Intn(len(numbers))]; number {
		case 0, 60:
			b, follows = append(chanceOptions(r, follows), b...), number
			if number == 0 && r.Intn(2) == 0 {
				follows = 60
			}
		case 43:
			head := append([]byte{follows, byte(r.Intn(2)), 3, byte(max(r.Intn(8)-6, 0))}, upTo(12)...)
			b, follows = append(head[:8+8*int(head[1])], b...), number
		case 44:
			head := []byte{follows, 3, byte(max(r.Intn(9)-7, 0)), byte(max(r.Intn(20)-9, 0)), 1, 2, 3, byte(r.Intn(256))}
			b, follows = append(head, b...), number
		}
	}
	if r.Intn(3) == 0 {
		b, follows = append(opts(follows, 5, 2, 0, 0), b...), 0
	}
	if r.Intn(6) == 0 {
		b = b[:r.Intn(len(b)+1)]
	}
	if r.Intn(6) == 0 && len(b) > 0 {
		b[r.Intn(len(b))] = byte(r.Intn(256))
	}
	return follows, b
}

func chanceOptions(r *rand.Rand, follows uint8) []byte {
	var b []byte
	for range r.Intn(5) {
		kind := []byte{0, 1, 1, 5, 5, 7, 62, 63, 64, 130, 194, byte(r.Intn(256))}[r.Intn(12)]
		if kind >= 64 && r.Intn(4) > 0 {
			kind = 1
		}
		b = append(b, kind)
		if kind == 0 {
			continue
		}
		size := r.Intn(5)
		b = append(append(b, byte(size)), make([]byte, size)...)
	}
	return opts(follows, b...)
}

// P9.3: many chains, as the chapter's words have them.
func TestChainMany(t *testing.T) {
	r := rand.New(rand.NewSource(9))
	seen := map[api.Errno]int{}
	for range 200000 {
		next, b := chanceChain(r)
		at := []uint32{40, 40, 40, 48, 0, 3, 32, math.MaxUint32 - 9, math.MaxUint32}[r.Intn(9)]
		multicast := r.Intn(2) == 0
		want := plainChain(next, b, at, multicast)
		seen[want.e]++
		if a := chain(next, b, at, multicast); !same(a, want) {
			t.Fatalf("Chain(%d, %v, %d, %v) = %+v, not %+v", next, b, at, multicast, a, want)
		}
	}
	for _, e := range []api.Errno{api.OK, api.ErrForm, api.ErrShort, api.ErrFault, api.ErrDrop} {
		if seen[e] < 1000 {
			t.Errorf("only %d chains with %v", seen[e], e)
		}
	}
}

// P9.2: many packets, and bytes of chance, as the chapter's words have them.
func TestGetMany(t *testing.T) {
	r := rand.New(rand.NewSource(10))
	for i := range 60000 {
		next, b := chanceChain(r)
		p := api.Packet{Src: one, Dst: []api.Addr{one, many}[r.Intn(2)], Hops: uint8(i), Next: next, Body: b}
		whole := append(plainPut(p), upTo(r.Intn(3))...)
		if r.Intn(8) == 0 {
			whole[r.Intn(len(whole))] = byte(r.Intn(256))
		}
		if r.Intn(8) == 0 {
			whole = whole[:r.Intn(len(whole))]
		}
		want, fault, e := plainGet(whole)
		if q, f, g := headers.Get(whole); !samePacket(q, want) || f != fault || g != e {
			t.Fatalf("Get(%v) = %+v, %v, %v, not %+v, %v, %v", whole, q, f, g, want, fault, e)
		}
	}
}

// P9.4: what is put is got, and bytes behind change nothing.
func TestWhatFollows(t *testing.T) {
	r := rand.New(rand.NewSource(11))
	for i := range 40000 {
		p := api.Packet{Hops: uint8(r.Intn(256)), Alert: r.Intn(2) == 0, Next: uint8(i)}
		r.Read(p.Src[:])
		r.Read(p.Dst[:])
		if slices.Contains(numbers, p.Next) {
			p.Next = 17
		}
		if r.Intn(2) == 0 {
			p.Frag = api.Frag{Is: true, ID: r.Uint32(), Offset: uint16(r.Intn(8192) >> r.Intn(14)), More: r.Intn(2) == 0}
			p.Frag.More = p.Frag.More || p.Frag.Offset == 0
		}
		p.Body = make([]byte, r.Intn(100))
		if i%1000 == 0 {
			p.Body = make([]byte, 65535-16-i%3)
		}
		r.Read(p.Body)
		b, e := headers.Put(p)
		if e != api.OK || !bytes.Equal(b, plainPut(p)) {
			t.Fatalf("Put(%+v) = %v, %v", p, b, e)
		}
		for _, behind := range []int{0, 1, 9, r.Intn(2000)} {
			wantGet(t, append(slices.Clone(b), upTo(behind)...), p, api.Fault{}, api.OK)
		}
	}
}
