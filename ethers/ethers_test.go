package ethers_test

import (
	"bytes"
	"math/rand"
	"slices"
	"testing"

	"sojourner/api"
	"sojourner/ethers"
)

// kinds are those that the network uses, those whose two bytes differ, and the edges.
var kinds = []uint16{0, 1, 255, 256, 0x0102, 0x0201, 0x00ff, 0xff00, 0x86dd, 0xdd86, 0x0800, 65534, 65535}

// bodies are lengths of bodies: none, one, and those beside the edges of a frame.
var bodies = []int{0, 1, 2, 3, 46, 1279, 1280, 1499, 1500, 1501, 1502, 3000}

// plainPut is a frame's bytes by the chapter's words, one behind the other.
func plainPut(f api.Frame) (b []byte) {
	for _, x := range f.Dst {
		b = append(b, x)
	}
	for _, x := range f.Src {
		b = append(b, x)
	}
	b = append(b, byte(f.Kind/256), byte(f.Kind%256))
	return append(b, f.Body...)
}

// upTo is n bytes that differ from those beside them, and from those a byte's round away.
func upTo(n int) []byte {
	b := make([]byte, n)
	for i := range b {
		b[i] = byte(i + 1 + i/256)
	}
	return b
}

func chance(r *rand.Rand, n int) []byte {
	b := make([]byte, n)
	r.Read(b)
	return b
}

func chanceFrame(r *rand.Rand, n int) (f api.Frame) {
	r.Read(f.Dst[:])
	r.Read(f.Src[:])
	f.Kind = uint16(r.Intn(1 << 16))
	f.Body = chance(r, n)
	return f
}

// sample is a frame no two of whose bytes ahead of the body are the same.
func sample(n int) api.Frame {
	return api.Frame{Dst: api.Mac{1, 2, 3, 4, 5, 6}, Src: api.Mac{7, 8, 9, 10, 11, 12}, Kind: 34525, Body: upTo(n)}
}

func same(f, g api.Frame) bool {
	return f.Dst == g.Dst && f.Src == g.Src && f.Kind == g.Kind && bytes.Equal(f.Body, g.Body)
}

// wantBytes tells a fault, if bytes are other ones, or have room behind.
func wantBytes(t *testing.T, got, want []byte) {
	t.Helper()
	if !bytes.Equal(got, want) {
		t.Errorf("%d bytes %x, not %d bytes %x", len(got), got, len(want), want)
	}
	if cap(got) != len(got) {
		t.Errorf("room of %d behind %d bytes", cap(got)-len(got), len(got))
	}
}

// got tells a fault, if bytes are no frame, or another one.
func got(t *testing.T, b []byte, want api.Frame) {
	t.Helper()
	f, e := ethers.Get(b)
	if e != api.OK || !same(f, want) {
		t.Errorf("Get(%x) = %v, %v, not %v", b, f, e, want)
	}
	if cap(f.Body) != len(f.Body) {
		t.Errorf("room of %d behind a body of %d", cap(f.Body)-len(f.Body), len(f.Body))
	}
}

// refused tells a fault, if bytes are taken, or the answer beside the error is not all noughts.
func refused(t *testing.T, b []byte, want api.Errno) {
	t.Helper()
	f, e := ethers.Get(b)
	if e != want {
		t.Errorf("Get of %d bytes: %v, not %v", len(b), e, want)
	}
	if !same(f, api.Frame{}) || f.Body != nil {
		t.Errorf("Get of %d bytes, beside the error: %v", len(b), f)
	}
}

func TestChapterExamples(t *testing.T) {
	f := api.Frame{Dst: api.Mac{1, 2, 3, 4, 5, 6}, Src: api.Mac{7, 8, 9, 10, 11, 12}, Kind: 34525, Body: []byte{99}}
	b := []byte{1, 2, 3, 4, 5, 6, 7, 8, 9, 10, 11, 12, 134, 221, 99}
	wantBytes(t, ethers.Put(f), b)
	got(t, b, f)
	a := api.Addr{255, 2, 11: 1, 12: 255, 14: 0x12, 15: 0x34}
	if m := ethers.Group(a); m != (api.Mac{51, 51, 255, 0, 18, 52}) {
		t.Error("Group", m)
	}
}

// P8.1: each field at its place, the kind's highest byte first.

func TestPutOfNothing(t *testing.T) {
	wantBytes(t, ethers.Put(api.Frame{}), make([]byte, 14))
	wantBytes(t, ethers.Put(api.Frame{Body: []byte{}}), make([]byte, 14))
}

func TestPutOfOneByteElsewhere(t *testing.T) {
	for at := range 6 {
		var f, g api.Frame
		f.Dst[at], g.Src[at] = 200, 201
		want := make([]byte, 14)
		want[at] = 200
		wantBytes(t, ethers.Put(f), want)
		want = make([]byte, 14)
		want[6+at] = 201
		wantBytes(t, ethers.Put(g), want)
	}
}

func TestPutOfEachKind(t *testing.T) {
	for _, k := range kinds {
		wantBytes(t, ethers.Put(api.Frame{Kind: k}), append(make([]byte, 12), byte(k/256), byte(k%256)))
	}
	for k := range 1 << 16 {
		f := sample(1)
		f.Kind = uint16(k)
		wantBytes(t, ethers.Put(f), plainPut(f))
	}
}

// However long the body is: a frame that is too long to be got has its bytes, too.
func TestPutOfEachLength(t *testing.T) {
	for _, n := range append(bodies, 70000) {
		f := sample(n)
		b := ethers.Put(f)
		wantBytes(t, b, plainPut(f))
		if len(b) != 14+n {
			t.Errorf("%d bytes of a body of %d", len(b), n)
		}
	}
}

// P8.2: the errors.

func TestGetOfTooFew(t *testing.T) {
	refused(t, nil, api.ErrShort)
	for n := range 14 {
		refused(t, make([]byte, n), api.ErrShort)
		refused(t, upTo(n), api.ErrShort)
		refused(t, append(make([]byte, 0, 100), upTo(n)...), api.ErrShort)
	}
}

func TestGetOfTooMany(t *testing.T) {
	for _, n := range []int{1515, 1516, 2000, 3014, 65535, 1 << 20} {
		refused(t, upTo(n), api.ErrLimit)
	}
}

// P8.2: the frame, at the limits and between them.

func TestGetOfEachLength(t *testing.T) {
	for n := 14; n <= 1514; n++ {
		b := upTo(n)
		want := api.Frame{Dst: api.Mac(b[:6]), Src: api.Mac(b[6:12]), Kind: uint16(b[12])*256 + uint16(b[13]), Body: b[14:]}
		got(t, b, want)
	}
}

func TestGetOfOneByteElsewhere(t *testing.T) {
	for at := range 20 {
		b := make([]byte, 20)
		b[at] = 200
		want := api.Frame{Body: make([]byte, 6)}
		switch {
		case at < 6:
			want.Dst[at] = 200
		case at < 12:
			want.Src[at-6] = 200
		case at == 12:
			want.Kind = 200 * 256
		case at == 13:
			want.Kind = 200
		default:
			want.Body[at-14] = 200
		}
		got(t, b, want)
	}
}

func TestGetOfEachKind(t *testing.T) {
	for k := range 1 << 16 {
		b := append(upTo(12), byte(k/256), byte(k%256))
		got(t, b, api.Frame{Dst: api.Mac{1, 2, 3, 4, 5, 6}, Src: api.Mac{7, 8, 9, 10, 11, 12}, Kind: uint16(k)})
	}
}

// P8.3: the known groups, and what is none: the last four bytes count, whatever the address is.

func TestGroup(t *testing.T) {
	for _, c := range []struct {
		a    api.Addr
		want api.Mac
	}{
		{api.Addr{255, 2, 15: 1}, api.Mac{51, 51, 0, 0, 0, 1}},
		{api.Addr{255, 2, 15: 2}, api.Mac{51, 51, 0, 0, 0, 2}},
		{api.Addr{255, 2, 15: 0x16}, api.Mac{51, 51, 0, 0, 0, 22}},
		{api.Addr{255, 2, 13: 1, 15: 2}, api.Mac{51, 51, 0, 1, 0, 2}},
		{api.Addr{255, 2, 11: 1, 12: 255, 13: 1, 14: 2, 15: 3}, api.Mac{51, 51, 255, 1, 2, 3}},
		{api.Addr{}, api.Mac{51, 51}},
		{api.Addr{0x20, 0x01, 11: 9, 12: 4, 13: 3, 14: 2, 15: 1}, api.Mac{51, 51, 4, 3, 2, 1}},
		{api.Addr{12: 255, 13: 255, 14: 255, 15: 255}, api.Mac{51, 51, 255, 255, 255, 255}},
	} {
		if m := ethers.Group(c.a); m != c.want {
			t.Errorf("Group(%x) = %x, not %x", c.a, m, c.want)
		}
	}
}

func TestGroupsThatPartInOneByte(t *testing.T) {
	r := rand.New(rand.NewSource(83))
	for range 200 {
		a := api.Addr(chance(r, 16))
		m := ethers.Group(a)
		if want := (api.Mac{51, 51, a[12], a[13], a[14], a[15]}); m != want {
			t.Fatalf("Group(%x) = %x, not %x", a, m, want)
		}
		for at := range a {
			b := a
			b[at] ^= byte(1 + r.Intn(255))
			want := m
			if at >= 12 {
				want[at-10] = b[at]
			}
			if n := ethers.Group(b); n != want {
				t.Fatalf("Group(%x) = %x, not %x", b, n, want)
			}
		}
	}
}

// P8.4: what is put is got, if it is not too long; if it is, it is refused.

func TestPutThenGetOfEachLength(t *testing.T) {
	for _, n := range bodies {
		f := sample(n)
		if n > 1500 {
			refused(t, ethers.Put(f), api.ErrLimit)
			continue
		}
		got(t, ethers.Put(f), f)
	}
	got(t, ethers.Put(api.Frame{}), api.Frame{})
	got(t, ethers.Put(api.Frame{Body: []byte{}}), api.Frame{})
}

func TestPutThenGetOfMany(t *testing.T) {
	r := rand.New(rand.NewSource(84))
	for range 5000 {
		f := chanceFrame(r, r.Intn(1501))
		b := ethers.Put(f)
		wantBytes(t, b, plainPut(f))
		got(t, b, f)
	}
}

// P8.4: what is got is put as these bytes.
func TestGetThenPutOfMany(t *testing.T) {
	r := rand.New(rand.NewSource(85))
	for n := range 5000 {
		size := 14 + n%1501
		b := chance(r, size)
		f, e := ethers.Get(b)
		if e != api.OK {
			t.Fatalf("Get of %d bytes: %v", size, e)
		}
		wantBytes(t, ethers.Put(f), b)
	}
}

// R1, R4: bytes that are handed in, or out, are shared with nobody.

func TestPutSharesNothing(t *testing.T) {
	room := append(make([]byte, 0, 64), 1, 2, 3)
	f := sample(0)
	f.Body = room
	a, b := ethers.Put(f), ethers.Put(f)
	want := plainPut(f)
	for i := range a {
		a[i] ^= 0x55
	}
	_ = append(a, 77)
	wantBytes(t, b, want)
	if !bytes.Equal(room[:64], append([]byte{1, 2, 3}, make([]byte, 61)...)) {
		t.Errorf("the body that was handed in was changed: %v", room[:64])
	}
	room[0] = 99
	wantBytes(t, b, want)
}

func TestGetSharesNothing(t *testing.T) {
	want := sample(5)
	room := append(make([]byte, 0, 64), plainPut(want)...)
	before := slices.Clone(room[:64])
	f, _ := ethers.Get(room)
	g, _ := ethers.Get(room)
	for i := range f.Body {
		f.Body[i] ^= 0x55
	}
	_ = append(f.Body, 77)
	f.Dst[0], f.Src[0] = 88, 89
	if !bytes.Equal(room[:64], before) {
		t.Errorf("the bytes that were handed in were changed: %v", room[:64])
	}
	for i := range room {
		room[i] = 200
	}
	if !same(g, want) {
		t.Errorf("a frame that was handed out was changed: %v", g)
	}
}

// An empty body has no room either, into which another answer could reach.
func TestGetOfNoBodySharesNothing(t *testing.T) {
	b := plainPut(sample(0))
	f, _ := ethers.Get(b)
	_ = append(f.Body, 77)
	got(t, b, sample(0))
	if cap(f.Body) != 0 {
		t.Errorf("room of %d behind no body", cap(f.Body))
	}
}
