package options_test

import (
	"bytes"
	"math"
	"math/rand"
	"reflect"
	"slices"
	"testing"

	"sojourner/api"
	"sojourner/options"
)

// filled is Data with the noughts that fill it, by the chapter's words: byte by byte till whole eights are there.
func filled(data []byte) []byte {
	out := append([]byte{}, data[:min(len(data), 2038)]...)
	for len(out) < 6 || (len(out)+2)%8 != 0 {
		out = append(out, 0)
	}
	return out
}

// plainPut is options' bytes by the chapter's words.
func plainPut(l []api.Option) []byte {
	out := []byte{}
	for _, o := range l {
		data := filled(o.Data)
		out = append(out, o.Kind, byte((len(data)+2)/8))
		out = append(out, data...)
	}
	return out
}

// upTo is n bytes that differ from those beside them, none of them a nought.
func upTo(n int) []byte {
	b := make([]byte, n)
	for i := range b {
		b[i] = byte(i%255 + 1)
	}
	return b
}

// copyOf is options in memory of their own.
func copyOf(l []api.Option) []api.Option {
	out := slices.Clone(l)
	for i := range out {
		out[i].Data = slices.Clone(out[i].Data)
	}
	return out
}

// wantData tells a fault, if bytes are others, or have room behind.
func wantData(t *testing.T, got, want []byte) {
	t.Helper()
	if !bytes.Equal(got, want) {
		t.Errorf("got %v, want %v", got, want)
	}
	if cap(got) != len(got) {
		t.Errorf("room of %d behind %v", cap(got)-len(got), got)
	}
}

func wantOption(t *testing.T, got api.Option, kind uint8, data ...byte) {
	t.Helper()
	if got.Kind != kind {
		t.Errorf("kind %d, want %d", got.Kind, kind)
	}
	wantData(t, got.Data, data)
}

// wantPut puts options, holds their bytes against the chapter's words, and gets them again.
func wantPut(t *testing.T, l []api.Option) {
	t.Helper()
	was := copyOf(l)
	b := options.Put(l)
	wantData(t, b, plainPut(l))
	got, e := options.Get(b)
	if e != api.OK || len(got) != len(l) {
		t.Fatalf("got %d options of %d, error %d", len(got), len(l), e)
	}
	if cap(got) != len(got) {
		t.Errorf("room of %d behind %d options", cap(got)-len(got), len(got))
	}
	for i, o := range got {
		wantOption(t, o, l[i].Kind, filled(l[i].Data)...)
	}
	if !reflect.DeepEqual(l, was) {
		t.Errorf("made %v out of %v", l, was)
	}
}

func wantNoForm(t *testing.T, b []byte) {
	t.Helper()
	was := slices.Clone(b)
	if l, e := options.Get(b); e != api.ErrForm || l != nil {
		t.Errorf("Get(%v) = %v, %d", b, l, e)
	}
	if !bytes.Equal(b, was) {
		t.Errorf("made %v out of %v", b, was)
	}
}

func TestChapterExamples(t *testing.T) {
	l := []api.Option{{Kind: 1, Data: []byte{2, 0, 0, 0, 0, 9}}, {Kind: 14, Data: []byte{7}}}
	b := options.Put(l)
	wantData(t, b, []byte{1, 1, 2, 0, 0, 0, 0, 9, 14, 1, 7, 0, 0, 0, 0, 0})
	got, e := options.Get(b)
	if e != api.OK || len(got) != 2 {
		t.Fatal(got, e)
	}
	wantOption(t, got[0], 1, 2, 0, 0, 0, 0, 9)
	wantOption(t, got[1], 14, 7, 0, 0, 0, 0, 0)
	wantOption(t, options.Domains(60, []string{"a.bc", ""}), 31, 0, 0, 0, 0, 0, 60, 1, 97, 2, 98, 99, 0)
}

// P10.1: Put and Get. P10.5: what is put is got, filled up.

func TestPutOfNone(t *testing.T) {
	for _, l := range [][]api.Option{nil, {}} {
		if b := options.Put(l); len(b) != 0 || cap(b) != 0 {
			t.Error(b)
		}
	}
	for _, b := range [][]byte{nil, {}} {
		if l, e := options.Get(b); len(l) != 0 || cap(l) != 0 || e != api.OK {
			t.Error(l, e)
		}
	}
}

func TestPutOfEachLength(t *testing.T) {
	for n := range 40 {
		wantPut(t, []api.Option{{Kind: uint8(n), Data: upTo(n)}})
	}
	for _, n := range []int{2029, 2030, 2031, 2037, 2038, 2039, 2040, 2046, 2047, 5000, 70000} {
		wantPut(t, []api.Option{{Kind: 255, Data: upTo(n)}})
		wantPut(t, []api.Option{{Data: upTo(n)}, {Kind: 3}, {Kind: 3, Data: upTo(n)}, {}})
	}
}

func TestPutOfEdges(t *testing.T) {
	for n, eights := range map[int]byte{0: 1, 5: 1, 6: 1, 7: 2, 14: 2, 15: 3, 2030: 254, 2031: 255, 2037: 255, 2038: 255, 2039: 255, 1 << 20: 255} {
		b := options.Put([]api.Option{{Kind: 77, Data: upTo(n)}})
		if len(b) != 8*int(eights) || b[0] != 77 || b[1] != eights {
			t.Errorf("of %d bytes of Data: %d, %v", n, len(b), b[:2])
		}
	}
}

func TestPutLooksAtNoRoomBehind(t *testing.T) {
	room := append(make([]byte, 0, 20), 9, 9)
	copy(room[2:20], upTo(18))
	wantData(t, options.Put([]api.Option{{Kind: 1, Data: room}}), []byte{1, 1, 9, 9, 0, 0, 0, 0})
}

func TestPutOfMany(t *testing.T) {
	l := []api.Option{{Kind: 5}, {}, {Kind: 5, Data: upTo(7)}, {Kind: 0, Data: []byte{0}}, {Kind: 200, Data: []byte{}}}
	wantPut(t, l)
	// More than are got may be put.
	wantData(t, options.Put(make([]api.Option, 100)), bytes.Repeat([]byte{0, 1, 0, 0, 0, 0, 0, 0}, 100))
}

func TestGetOfNoEights(t *testing.T) {
	sound := options.Put([]api.Option{{Kind: 1, Data: upTo(9)}})
	for _, b := range [][]byte{{1, 0}, {0, 0}, make([]byte, 8), {3, 0, 1, 1, 0, 0, 0, 0, 0, 0}} {
		wantNoForm(t, b)
		wantNoForm(t, slices.Concat(sound, b))
		wantNoForm(t, slices.Concat(b, sound))
	}
}

func TestGetOfTooFewBytes(t *testing.T) {
	for _, eights := range []byte{1, 2, 7, 255} {
		whole := append([]byte{9, eights}, upTo(8*int(eights)-2)...)
		if l, e := options.Get(whole); e != api.OK || len(l) != 1 {
			t.Fatal(l, e)
		}
		for _, n := range []int{1, 2, 3, len(whole) - 2, len(whole) - 1} {
			wantNoForm(t, whole[:n])
			wantNoForm(t, slices.Concat(whole, whole[:n]))
		}
		// One byte more is one byte alone, whichever it is.
		wantNoForm(t, append(slices.Clip(whole), 0))
		wantNoForm(t, append(slices.Clip(whole), 1))
	}
}

func TestGetOfMaxOptions(t *testing.T) {
	one := []byte{7, 1, 1, 2, 3, 4, 5, 6}
	for n := range api.MaxOptions + 1 {
		l, e := options.Get(bytes.Repeat(one, n))
		if e != api.OK || len(l) != n || cap(l) != n {
			t.Errorf("%d options: %d, room %d, error %d", n, len(l), cap(l), e)
		}
	}
	for _, n := range []int{1, 2, 100, 10000} {
		wantNoForm(t, bytes.Repeat(one, api.MaxOptions+n))
	}
	wantNoForm(t, append(bytes.Repeat(one, api.MaxOptions), 1))
	wantPut(t, slices.Repeat([]api.Option{{Kind: 3, Data: upTo(30)}}, api.MaxOptions))
}

func TestGetLooksAtNoRoomBehind(t *testing.T) {
	room := options.Put([]api.Option{{Kind: 1}, {Kind: 2}})
	l, e := options.Get(room[:8])
	if e != api.OK || len(l) != 1 {
		t.Error(l, e)
	}
	wantNoForm(t, room[:15])
}

// plainGet is the options by the chapter's words; nothing, if there is a fault.
func plainGet(b []byte) (l []api.Option, ok bool) {
	for at := 0; at < len(b); {
		if at+1 == len(b) || b[at+1] == 0 || at+8*int(b[at+1]) > len(b) {
			return nil, false
		}
		end := at + 8*int(b[at+1])
		l = append(l, api.Option{Kind: b[at], Data: b[at+2 : end]})
		at = end
	}
	return l, len(l) <= 64
}

func TestGetOfAnything(t *testing.T) {
	r := rand.New(rand.NewSource(10))
	for range 20000 {
		b := make([]byte, r.Intn(12)*r.Intn(9))
		r.Read(b)
		for i := range b {
			if r.Intn(3) > 0 {
				b[i] %= 4
			}
		}
		want, ok := plainGet(b)
		l, e := options.Get(b)
		if ok != (e == api.OK) || !ok && e != api.ErrForm || len(l) != len(want) {
			t.Fatalf("Get(%v) = %v, %d", b, l, e)
		}
		for i, o := range l {
			wantOption(t, o, want[i].Kind, want[i].Data...)
		}
		if ok && !bytes.Equal(options.Put(l), b) {
			t.Fatalf("%v put again is another one", b)
		}
	}
}

func TestPutAndGetShareNothing(t *testing.T) {
	l := []api.Option{{Kind: 1, Data: upTo(6)}, {Kind: 2, Data: upTo(14)}}
	b := options.Put(l)
	l[0].Data[0], b[9] = 99, 2
	wantData(t, l[1].Data, upTo(14))
	wantData(t, b[2:8:8], upTo(6))
	got, e := options.Get(b)
	if e != api.OK {
		t.Fatal(e)
	}
	clear(b)
	wantData(t, got[0].Data, upTo(6))
	for i := range got[0].Data {
		got[0].Data[i] = 200
	}
	got[0].Data = append(got[0].Data, 201, 202, 203)
	wantData(t, got[1].Data, upTo(14))
	if !bytes.Equal(b, make([]byte, len(b))) {
		t.Error("what was handed in was changed", b)
	}
}

// P10.1: Find.

func TestFind(t *testing.T) {
	l := []api.Option{{Kind: 3, Data: upTo(3)}, {Kind: 1, Data: upTo(6)}, {Kind: 1, Data: upTo(7)}, {Kind: 0}, {Kind: 3}, {Kind: 255, Data: upTo(2040)}}
	was := copyOf(l)
	for kind, want := range map[uint8][]byte{3: upTo(3), 1: upTo(6), 0: nil, 255: upTo(2040)} {
		o, ok := options.Find(l, kind)
		if !ok {
			t.Errorf("no option of kind %d", kind)
		}
		wantOption(t, o, kind, want...)
		for i := range o.Data {
			o.Data[i] = 0
		}
		_ = append(o.Data, 1, 2, 3)
	}
	if !reflect.DeepEqual(l, was) {
		t.Error("what was handed in was changed", l)
	}
	o, _ := options.Find(l, 1)
	clear(l[1].Data)
	wantOption(t, o, 1, upTo(6)...)
}

func TestFindOfNone(t *testing.T) {
	for _, l := range [][]api.Option{nil, {}, {{Kind: 2, Data: upTo(6)}, {Kind: 4}}} {
		for _, kind := range []uint8{0, 1, 3, 5, 255} {
			if o, ok := options.Find(l, kind); ok || o.Kind != 0 || o.Data != nil {
				t.Errorf("Find(%v, %d) = %v, %v", l, kind, o, ok)
			}
		}
	}
}

// P10.2: what is made.

func TestLink(t *testing.T) {
	m := api.Mac{2, 1, 3, 5, 7, 9}
	for kind := range 256 {
		wantOption(t, options.Link(uint8(kind), m), uint8(kind), 2, 1, 3, 5, 7, 9)
	}
	o := options.Link(1, m)
	o.Data[0] = 77
	wantOption(t, options.Link(1, m), 1, 2, 1, 3, 5, 7, 9)
}

func TestInfo(t *testing.T) {
	a := api.Addr(upTo(16))
	for flags, p := range map[byte]api.PrefixInfo{0: {}, 128: {OnLink: true}, 64: {Auto: true}, 192: {OnLink: true, Auto: true}} {
		p.Prefix, p.Valid, p.Preferred = api.Prefix{Addr: a, Bits: 64}, 0x01020304, 0xf1f2f3f4
		head := []byte{64, flags, 1, 2, 3, 4, 0xf1, 0xf2, 0xf3, 0xf4, 0, 0, 0, 0}
		wantOption(t, options.Info(p), 3, append(head, a[:]...)...)
	}
	// Whatever the Bits are, they and the whole address are there.
	for _, bits := range []uint8{0, 1, 127, 128, 129, 255} {
		o := options.Info(api.PrefixInfo{Prefix: api.Prefix{Addr: a, Bits: bits}})
		wantOption(t, o, 3, slices.Concat([]byte{bits}, make([]byte, 13), a[:])...)
	}
}

func TestRedirected(t *testing.T) {
	for _, n := range []int{0, 1, 2, 40, 1280, 2032, 2033, 5000} {
		in := upTo(n)
		o := options.Redirected(in)
		wantOption(t, o, 4, append(make([]byte, 6), in...)...)
		clear(in)
		wantOption(t, o, 4, append(make([]byte, 6), upTo(n)...)...)
		clear(o.Data)
	}
	wantOption(t, options.Redirected(nil), 4, 0, 0, 0, 0, 0, 0)
}

func TestMtu(t *testing.T) {
	wantOption(t, options.Mtu(0x01020304), 5, 0, 0, 1, 2, 3, 4)
	wantOption(t, options.Mtu(0), 5, 0, 0, 0, 0, 0, 0)
	wantOption(t, options.Mtu(math.MaxUint32), 5, 0, 0, 255, 255, 255, 255)
}

func TestNonce(t *testing.T) {
	wantOption(t, options.Nonce([6]byte{}), 14, 0, 0, 0, 0, 0, 0)
	wantOption(t, options.Nonce([6]byte{9, 8, 7, 6, 5, 4}), 14, 9, 8, 7, 6, 5, 4)
}

func TestServers(t *testing.T) {
	for _, n := range []int{0, 1, 2, 3, 4, 5, 127, 128, 300} {
		l := make([]api.Addr, n)
		want := []byte{0, 0, 1, 2, 3, 4}
		for i := range l {
			l[i] = api.Addr(upTo(16 + i)[i:])
			want = append(want, l[i][:]...)
		}
		o := options.Servers(0x01020304, l)
		wantOption(t, o, 25, want...)
		clear(l)
		wantOption(t, o, 25, want...)
	}
	wantOption(t, options.Servers(0, nil), 25, 0, 0, 0, 0, 0, 0)
}

// P10.3: what is read.

// readers are the calls that read, each with its kinds: whether it reads, and what it answers then.
var readers = map[string]struct {
	kinds []uint8
	read  func(o api.Option) (any, bool)
}{
	"Mac":    {[]uint8{1, 2}, func(o api.Option) (any, bool) { m, ok := options.Mac(o); return m, ok }},
	"Prefix": {[]uint8{3}, func(o api.Option) (any, bool) { p, ok := options.Prefix(o); return p, ok }},
	"MtuOf":  {[]uint8{5}, func(o api.Option) (any, bool) { n, ok := options.MtuOf(o); return n, ok }},
	"ServersOf": {[]uint8{25}, func(o api.Option) (any, bool) {
		life, l, ok := options.ServersOf(o)
		return listed[api.Addr]{life, l}, ok
	}},
	"DomainsOf": {[]uint8{31}, func(o api.Option) (any, bool) {
		life, l, ok := options.DomainsOf(o)
		return listed[string]{life, l}, ok
	}},
}

type listed[T any] struct {
	life uint32
	list []T
}

// samples are options of each kind that is read, each of them sound.
func samples() []api.Option {
	return []api.Option{
		options.Link(1, api.Mac(upTo(6))),
		options.Link(2, api.Mac(upTo(6))),
		options.Info(api.PrefixInfo{Prefix: api.Prefix{Addr: api.Addr(upTo(16)), Bits: 64}, OnLink: true, Valid: 7, Preferred: 8}),
		options.Mtu(1500),
		options.Servers(60, []api.Addr{api.Addr(upTo(16)), {1}}),
		options.Domains(60, []string{"a.bc", "d"}),
	}
}

// wantNothing reads an option by one call, or by all, which have to answer noughts and false.
func wantNothing(t *testing.T, o api.Option, names ...string) {
	t.Helper()
	was := slices.Clone(o.Data)
	for name, r := range readers {
		if len(names) > 0 && !slices.Contains(names, name) {
			continue
		}
		v, ok := r.read(o)
		if ok || !reflect.ValueOf(v).IsZero() {
			t.Errorf("%s(%v) = %v, %v", name, o, v, ok)
		}
	}
	if !bytes.Equal(o.Data, was) {
		t.Errorf("made %v out of %v", o.Data, was)
	}
}

func TestEachKindAlone(t *testing.T) {
	for _, o := range samples() {
		for kind := range 256 {
			o.Kind = uint8(kind)
			for name, r := range readers {
				if !slices.Contains(r.kinds, o.Kind) {
					wantNothing(t, o, name)
				}
			}
		}
	}
}

func TestEachKindOfItsLengthAlone(t *testing.T) {
	for _, o := range samples() {
		for name, r := range readers {
			if !slices.Contains(r.kinds, o.Kind) {
				continue
			}
			if _, ok := r.read(o); !ok {
				t.Errorf("%s does not read %v", name, o)
			}
			wantNothing(t, api.Option{Kind: o.Kind, Data: o.Data[:len(o.Data)-1]}, name)
			wantNothing(t, api.Option{Kind: o.Kind, Data: append(slices.Clip(o.Data), 1)}, name)
			if name != "DomainsOf" {
				wantNothing(t, api.Option{Kind: o.Kind, Data: append(slices.Clip(o.Data), 0)}, name)
				wantNothing(t, api.Option{Kind: o.Kind, Data: append(slices.Clip(o.Data), make([]byte, 8)...)}, name)
			}
		}
	}
	for n := range 80 {
		for _, kind := range []uint8{1, 2, 3, 5, 25} {
			o := api.Option{Kind: kind, Data: upTo(n)}
			right := n == map[uint8]int{1: 6, 2: 6, 3: 30, 5: 6}[kind] || kind == 25 && n > 6 && (n-6)%16 == 0
			if !right {
				wantNothing(t, o)
			}
		}
	}
	for _, kind := range []uint8{1, 2, 3, 5, 25, 31} {
		wantNothing(t, api.Option{Kind: kind})
		wantNothing(t, api.Option{Kind: kind, Data: []byte{}})
	}
}

func TestMac(t *testing.T) {
	for _, kind := range []uint8{1, 2} {
		o := api.Option{Kind: kind, Data: []byte{9, 8, 7, 6, 5, 4}}
		if m, ok := options.Mac(o); !ok || m != (api.Mac{9, 8, 7, 6, 5, 4}) {
			t.Error(kind, m, ok)
		}
	}
	if m, ok := options.Mac(api.Option{Kind: 1, Data: make([]byte, 6)}); !ok || m != (api.Mac{}) {
		t.Error(m, ok)
	}
}

// prefixData is Data of an option 3.
func prefixData(bits, flags byte, gap []byte, a api.Addr) []byte {
	return slices.Concat([]byte{bits, flags, 1, 2, 3, 4, 0xf1, 0xf2, 0xf3, 0xf4}, gap, a[:])
}

func TestPrefixFlags(t *testing.T) {
	for f := range 256 {
		p, ok := options.Prefix(api.Option{Kind: 3, Data: prefixData(128, byte(f), []byte{1, 2, 255, byte(f)}, api.Addr(upTo(16)))})
		want := api.PrefixInfo{Prefix: api.Prefix{Addr: api.Addr(upTo(16)), Bits: 128}, OnLink: f >= 128, Auto: f%128 >= 64, Valid: 0x01020304, Preferred: 0xf1f2f3f4}
		if !ok || p != want {
			t.Errorf("flags %d: %v, %v", f, p, ok)
		}
	}
}

func TestPrefixBits(t *testing.T) {
	ones := api.Addr(bytes.Repeat([]byte{255}, 16))
	for bits := range 256 {
		o := api.Option{Kind: 3, Data: prefixData(byte(bits), 0, make([]byte, 4), ones)}
		if bits > 128 {
			wantNothing(t, o)
			continue
		}
		var want api.Addr
		for i := range bits {
			want[i/8] |= 128 >> (i % 8)
		}
		p, ok := options.Prefix(o)
		if !ok || p.Prefix != (api.Prefix{Addr: want, Bits: uint8(bits)}) {
			t.Errorf("%d bits: %v, %v", bits, p, ok)
		}
	}
}

func TestMtuOf(t *testing.T) {
	for _, n := range []uint32{0, 1, 1280, 1500, 0x01020304, math.MaxUint32} {
		if got, ok := options.MtuOf(options.Mtu(n)); !ok || got != n {
			t.Error(n, got, ok)
		}
	}
	if n, ok := options.MtuOf(api.Option{Kind: 5, Data: []byte{255, 254, 0, 0, 5, 0}}); !ok || n != 1280 {
		t.Error(n, ok)
	}
}

func TestServersOf(t *testing.T) {
	for _, n := range []int{1, 2, 4, 5, 127, 128} {
		l := make([]api.Addr, n)
		for i := range l {
			l[i] = api.Addr(upTo(16 + i)[i:])
		}
		o := options.Servers(math.MaxUint32, l)
		o.Data[0], o.Data[1] = 7, 255
		life, got, ok := options.ServersOf(o)
		if !ok || life != math.MaxUint32 || !slices.Equal(got, l) || cap(got) != len(got) {
			t.Errorf("%d servers: %d, %v, %v", n, life, got, ok)
		}
		clear(o.Data)
		if !slices.Equal(got, l) {
			t.Error("shared")
		}
	}
	wantNothing(t, options.Servers(300, nil))
}

// P10.5: what an option is made of is read from it, when it was put and got, too.

// again is an option that was put and got.
func again(t *testing.T, o api.Option) api.Option {
	t.Helper()
	l, e := options.Get(options.Put([]api.Option{o}))
	if e != api.OK || len(l) != 1 {
		t.Fatal(l, e)
	}
	return l[0]
}

func TestReadAgain(t *testing.T) {
	r := rand.New(rand.NewSource(5))
	for range 3000 {
		var m api.Mac
		r.Read(m[:])
		kind := uint8(1 + r.Intn(2))
		for _, o := range twice(t, options.Link(kind, m)) {
			if got, ok := options.Mac(o); !ok || got != m {
				t.Fatal(m, got, ok)
			}
		}
		n := r.Uint32()
		for _, o := range twice(t, options.Mtu(n)) {
			if got, ok := options.MtuOf(o); !ok || got != n {
				t.Fatal(n, got, ok)
			}
		}
		p := api.PrefixInfo{OnLink: r.Intn(2) > 0, Auto: r.Intn(2) > 0, Valid: r.Uint32(), Preferred: r.Uint32()}
		p.Prefix.Bits = uint8(r.Intn(129))
		for i := range int(p.Prefix.Bits) {
			p.Prefix.Addr[i/8] |= byte(r.Intn(2)) << (7 - i%8)
		}
		for _, o := range twice(t, options.Info(p)) {
			if got, ok := options.Prefix(o); !ok || got != p {
				t.Fatal(p, got, ok)
			}
		}
		l := make([]api.Addr, 1+r.Intn(6))
		for i := range l {
			r.Read(l[i][:])
		}
		for _, o := range twice(t, options.Servers(n, l)) {
			if life, got, ok := options.ServersOf(o); !ok || life != n || !slices.Equal(got, l) {
				t.Fatal(l, life, got, ok)
			}
		}
	}
}

// twice is an option as it is made, and as it is when it was put and got.
func twice(t *testing.T, o api.Option) []api.Option {
	t.Helper()
	return []api.Option{o, again(t, o)}
}

func TestAMessageOfAllKinds(t *testing.T) {
	l := append(samples(), options.Nonce([6]byte{1, 2}), options.Redirected(upTo(41)))
	wantPut(t, l)
	got, _ := options.Get(options.Put(l))
	for _, o := range samples() {
		found, ok := options.Find(got, o.Kind)
		if !ok {
			t.Errorf("no option of kind %d", o.Kind)
		}
		for name, r := range readers {
			was, _ := r.read(o)
			if is, _ := r.read(found); !reflect.DeepEqual(is, was) {
				t.Errorf("%s: %v, not %v", name, is, was)
			}
		}
	}
}

// R1: whatever comes, each call ends, and leaves what it was given.

func TestReadersTakeAnything(t *testing.T) {
	r := rand.New(rand.NewSource(6))
	for range 20000 {
		o := api.Option{Kind: []uint8{1, 2, 3, 5, 25, 31, 0}[r.Intn(7)], Data: make([]byte, r.Intn(80))}
		r.Read(o.Data)
		was := slices.Clone(o.Data)
		for name, reader := range readers {
			if v, ok := reader.read(o); !ok && !reflect.ValueOf(v).IsZero() {
				t.Fatalf("%s(%v) = %v beside false", name, o, v)
			}
		}
		if !bytes.Equal(o.Data, was) {
			t.Fatalf("made %v out of %v", o.Data, was)
		}
	}
}
