package icmps_test

import (
	"encoding/binary"
	"reflect"
	"slices"

	"sojourner/api"
)

// This file is the chapter's words once more, worked out in another way than the program does it.

// kinds are those that a message may have; reports have no more than a number and Data, and so have echoes.
var (
	kinds   = []uint8{1, 2, 3, 4, 128, 129, 130, 133, 134, 135, 136, 137, 143}
	reports = []uint8{1, 2, 3, 4, 128, 129}
)

// optionsAt tells for the kinds that have options at which byte they begin.
var optionsAt = map[uint8]int{133: 8, 134: 16, 135: 24, 136: 24, 137: 40}

// plainSum is the checksum of bytes with their pseudo header.
func plainSum(src, dst api.Addr, b []byte) uint16 {
	all := slices.Concat(src[:], dst[:])
	all = binary.BigEndian.AppendUint32(all, uint32(len(b)))
	all = slices.Concat(all, []byte{0, 0, 0, 58}, b)
	if len(all)%2 != 0 {
		all = append(all, 0)
	}
	total := 0
	for i := 0; i < len(all); i += 2 {
		total += int(all[i])*256 + int(all[i+1])
	}
	for total > 65535 {
		total -= 65535 * ((total - 1) / 65535)
	}
	return uint16(65535 - total)
}

// right is bytes with their checksum.
func right(src, dst api.Addr, l ...[]byte) []byte {
	b := slices.Concat(l...)
	b[2], b[3] = 0, 0
	binary.BigEndian.PutUint16(b[2:], plainSum(src, dst, b))
	return b
}

// filled is an option's Data as it is put.
func filled(data []byte) []byte {
	out := slices.Clone(data[:min(len(data), 2038)])
	for len(out) < 6 || len(out)%8 != 6 {
		out = append(out, 0)
	}
	return out
}

func plainOptions(l []api.Option) (b []byte) {
	for _, o := range l {
		data := filled(o.Data)
		b = append(b, o.Kind, byte((len(data)+2)/8))
		b = append(b, data...)
	}
	return b
}

func plainAddrs(l []api.Addr) (b []byte) {
	for _, a := range l {
		b = append(b, a[:]...)
	}
	return b
}

func plainRecords(l []api.Record) (b []byte) {
	for _, r := range l {
		b = append(b, r.Kind, 0, 0, byte(len(r.Sources)))
		b = append(b, r.Group[:]...)
		b = append(b, plainAddrs(r.Sources)...)
	}
	return b
}

// plainBody is what stands behind the checksum.
func plainBody(m api.Message) []byte {
	order := binary.BigEndian
	switch m.Kind {
	case 130:
		b := order.AppendUint16(nil, m.Max)
		b = slices.Concat(b, []byte{0, 0}, m.Group[:], []byte{m.Robust, m.Interval, 0, byte(len(m.Sources))})
		return append(b, plainAddrs(m.Sources)...)
	case 133:
		return append(make([]byte, 4), plainOptions(m.Options)...)
	case 134:
		b := order.AppendUint16([]byte{m.Hops, m.Flags}, m.Life)
		b = order.AppendUint32(order.AppendUint32(b, m.Reachable), m.Retrans)
		return append(b, plainOptions(m.Options)...)
	case 135:
		return slices.Concat(make([]byte, 4), m.Target[:], plainOptions(m.Options))
	case 136:
		return slices.Concat([]byte{m.Flags, 0, 0, 0}, m.Target[:], plainOptions(m.Options))
	case 137:
		return slices.Concat(make([]byte, 4), m.Target[:], m.Dest[:], plainOptions(m.Options))
	case 143:
		return append([]byte{0, 0, 0, byte(len(m.Records))}, plainRecords(m.Records)...)
	}
	return append(order.AppendUint32(nil, m.Param), m.Data...)
}

// mayBePut tells whether a message may be put.
func mayBePut(m api.Message) bool {
	switch m.Kind {
	case 130:
		return len(m.Sources) <= 64
	case 143:
		long := func(r api.Record) bool { return len(r.Sources) > 64 }
		return len(m.Records) <= 64 && !slices.ContainsFunc(m.Records, long)
	case 133, 134, 135, 136, 137:
		return len(m.Options) <= 64
	}
	return slices.Contains(reports, m.Kind)
}

func plainPut(src, dst api.Addr, m api.Message) ([]byte, api.Errno) {
	if !mayBePut(m) {
		return nil, 1
	}
	return right(src, dst, []byte{m.Kind, m.Code, 0, 0}, plainBody(m)), 0
}

// had is a message with what its kind has alone, its options filled up: what is got, when it was put.
func had(m api.Message) api.Message {
	n := api.Message{Kind: m.Kind, Code: m.Code}
	switch m.Kind {
	case 130:
		n.Max, n.Group, n.Robust, n.Interval, n.Sources = m.Max, m.Group, m.Robust, m.Interval, m.Sources
	case 134:
		n.Hops, n.Flags, n.Life, n.Reachable, n.Retrans = m.Hops, m.Flags, m.Life, m.Reachable, m.Retrans
	case 135:
		n.Target = m.Target
	case 136:
		n.Flags, n.Target = m.Flags, m.Target
	case 137:
		n.Target, n.Dest = m.Target, m.Dest
	case 143:
		n.Records = m.Records
	}
	if _, ok := optionsAt[m.Kind]; ok {
		for _, o := range m.Options {
			n.Options = append(n.Options, api.Option{Kind: o.Kind, Data: filled(o.Data)})
		}
	}
	if slices.Contains(reports, m.Kind) {
		n.Param, n.Data = m.Param, m.Data
	}
	return n
}

// fault is what a plain reading ends with, wherever it is.
type fault api.Errno

// reader reads bytes one behind the other, and ends with a fault where they end too soon.
type reader struct{ b []byte }

func (r *reader) take(n int) []byte {
	if n > len(r.b) {
		panic(fault(api.ErrShort))
	}
	out := slices.Clone(r.b[:n])
	r.b = r.b[n:]
	return out
}

func (r *reader) one() uint8 { return r.take(1)[0] }

func (r *reader) two() uint16 { return binary.BigEndian.Uint16(r.take(2)) }

func (r *reader) four() uint32 { return binary.BigEndian.Uint32(r.take(4)) }

func (r *reader) addr() api.Addr { return api.Addr(r.take(16)) }

func (r *reader) many() int {
	n := int(r.two())
	if n > 64 {
		panic(fault(api.ErrForm))
	}
	return n
}

func (r *reader) addrs(n int) (l []api.Addr) {
	for len(l) < n {
		l = append(l, r.addr())
	}
	return l
}

func (r *reader) options() (l []api.Option) {
	for len(r.b) > 0 {
		if len(l) == 64 || len(r.b) == 1 || r.b[1] == 0 || int(r.b[1])*8 > len(r.b) {
			panic(fault(api.ErrForm))
		}
		b := r.take(int(r.b[1]) * 8)
		l = append(l, api.Option{Kind: b[0], Data: b[2:]})
	}
	return l
}

func (r *reader) record() (rec api.Record) {
	rec.Kind = r.one()
	behind := int(r.one())
	n := r.many()
	rec.Group = r.addr()
	rec.Sources = r.addrs(n)
	r.take(4 * behind)
	return rec
}

// fill reads what a message's kind has.
func (r *reader) fill(m *api.Message) {
	switch m.Kind {
	default:
		panic(fault(api.ErrNone))
	case 1, 2, 3, 4, 128, 129:
		m.Param = r.four()
		m.Data = r.take(len(r.b))
	case 130:
		m.Max = r.two()
		r.take(2)
		m.Group, m.Robust, m.Interval = r.addr(), r.one(), r.one()
		m.Sources = r.addrs(r.many())
	case 133:
		r.take(4)
	case 134:
		m.Hops, m.Flags, m.Life, m.Reachable, m.Retrans = r.one(), r.one(), r.two(), r.four(), r.four()
	case 135:
		r.take(4)
		m.Target = r.addr()
	case 136:
		m.Flags = r.one()
		r.take(3)
		m.Target = r.addr()
	case 137:
		r.take(4)
		m.Target, m.Dest = r.addr(), r.addr()
	case 143:
		r.take(2)
		for range r.many() {
			m.Records = append(m.Records, r.record())
		}
	}
	if _, ok := optionsAt[m.Kind]; ok {
		m.Options = r.options()
	}
}

func plainGet(src, dst api.Addr, b []byte) (m api.Message, e api.Errno) {
	if len(b) < 4 {
		return m, 5
	}
	// A sum of 0 and one of 65535 are the same one that goes round; just the first is good.
	if plainSum(src, dst, b) != 0 {
		return m, 6
	}
	defer func() {
		if f, ok := recover().(fault); ok {
			m, e = api.Message{}, api.Errno(f)
		}
	}()
	m.Kind, m.Code = b[0], b[1]
	r := reader{b[4:]}
	r.fill(&m)
	return m, 0
}

// same tells whether two messages are the same, lists that are empty or nil alike.
func same(a, b api.Message) bool { return reflect.DeepEqual(levelled(a), levelled(b)) }

// levelled is a copy of a message, in which no list is nil.
func levelled(m api.Message) api.Message {
	m.Data = append([]byte{}, m.Data...)
	m.Sources = append([]api.Addr{}, m.Sources...)
	m.Options = append([]api.Option{}, m.Options...)
	for i := range m.Options {
		m.Options[i].Data = append([]byte{}, m.Options[i].Data...)
	}
	m.Records = append([]api.Record{}, m.Records...)
	for i := range m.Records {
		m.Records[i].Sources = append([]api.Addr{}, m.Records[i].Sources...)
	}
	return m
}
