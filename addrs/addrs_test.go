package addrs_test

import (
	"math/rand"
	"testing"

	"sojourner/addrs"
	"sojourner/api"
)

// edges are the counts of bits that the document names, and those beside a byte's and the address's ends.
var edges = []uint8{0, 1, 7, 8, 9, 63, 64, 65, 127, 128, 129, 200, 254, 255}

// full is the address of all ones.
func full() (a api.Addr) {
	for i := range a {
		a[i] = 255
	}
	return a
}

// bit is an address's bit at a place, counted as the chapter's words say.
func bit(a api.Addr, at int) bool {
	return a[at/8]/(1<<(7-at%8))%2 == 1
}

// turned is the address with that one bit the other way round.
func turned(a api.Addr, at int) api.Addr {
	weight := byte(1) << (7 - at%8)
	if bit(a, at) {
		a[at/8] -= weight
	} else {
		a[at/8] += weight
	}
	return a
}

// plainCommon counts bit by bit.
func plainCommon(a, b api.Addr) int {
	n := 0
	for n < 128 && bit(a, n) == bit(b, n) {
		n++
	}
	return n
}

// plainMasked puts the kept bits into noughts one by one.
func plainMasked(a api.Addr, many int) (m api.Addr) {
	for at := range min(many, 128) {
		if bit(a, at) {
			m = turned(m, at)
		}
	}
	return m
}

// plainScope is the scope by the chapter's words, bit by bit.
func plainScope(a api.Addr) int {
	switch {
	case plainMulticast(a):
		return int(a[1]) % 16
	case a == api.Addr{15: 1}, plainLinkLocal(a):
		return 2
	case a == api.Addr{}:
		return 0
	}
	return 14
}

func plainMulticast(a api.Addr) bool { return plainCommon(a, full()) >= 8 }

func plainLinkLocal(a api.Addr) bool { return plainCommon(a, api.Addr{0xfe, 0x80}) >= 10 }

func chance(r *rand.Rand) (a api.Addr) {
	r.Read(a[:])
	return a
}

func chanceID(r *rand.Rand) (id [8]byte) {
	r.Read(id[:])
	return id
}

// near is an address that has at least so many bits in common with one, and chance behind them.
func near(r *rand.Rand, a api.Addr, many int) api.Addr {
	b := chance(r)
	for at := range many {
		if bit(a, at) != bit(b, at) {
			b = turned(b, at)
		}
	}
	return b
}

// some are addresses of every kind, and many by chance.
func some(r *rand.Rand, many int) []api.Addr {
	l := []api.Addr{
		{}, {15: 1}, {15: 2}, full(),
		{0xfe, 0x80, 15: 1}, {0xfe, 0xbf, 0xff}, {0xfe, 0x7f}, {0xfe, 0xc0},
		{0xff, 0x02, 15: 1}, {0xff, 0x0e, 15: 1}, {0x20, 0x01, 0x0d, 0xb8, 15: 1},
	}
	for range many {
		l = append(l, chance(r))
	}
	return l
}

// kinds tells a fault, if an address is of another kind.
func kinds(t *testing.T, a api.Addr, multi, link bool, scope int) {
	t.Helper()
	if got := addrs.IsMulticast(a); got != multi {
		t.Errorf("IsMulticast(%x) = %v", a, got)
	}
	if got := addrs.IsLinkLocal(a); got != link {
		t.Errorf("IsLinkLocal(%x) = %v", a, got)
	}
	if got := addrs.Scope(a); got != scope {
		t.Errorf("Scope(%x) = %d, not %d", a, got, scope)
	}
}

// common tells a fault, if two addresses have another count in common, in either order.
func common(t *testing.T, a, b api.Addr, want int) {
	t.Helper()
	if n := addrs.Common(a, b); n != want {
		t.Errorf("Common(%x, %x) = %d, not %d", a, b, n, want)
	}
	if n := addrs.Common(b, a); n != want {
		t.Errorf("Common(%x, %x) = %d, not %d", b, a, n, want)
	}
}

func masked(t *testing.T, a api.Addr, many uint8, want api.Addr) {
	t.Helper()
	if m := addrs.Masked(a, many); m != want {
		t.Errorf("Masked(%x, %d) = %x, not %x", a, many, m, want)
	}
}

func within(t *testing.T, a api.Addr, p api.Prefix, want bool) {
	t.Helper()
	if in := addrs.Within(a, p); in != want {
		t.Errorf("Within(%x, %x/%d) = %v", a, p.Addr, p.Bits, in)
	}
}

func TestChapterExamples(t *testing.T) {
	for _, c := range []struct {
		a    api.Addr
		want int
	}{
		{api.Addr{15: 1}, 2},
		{api.Addr{0xff, 0x05, 15: 2}, 5},
		{api.Addr{0xfe, 0xbf, 15: 1}, 2},
		{api.Addr{0xfe, 0xc0, 15: 1}, 14},
		{api.Addr{}, 0},
	} {
		if n := addrs.Scope(c.a); n != c.want {
			t.Errorf("Scope(%x) = %d, not %d", c.a, n, c.want)
		}
	}
	a := api.Addr{0x20, 0x01, 0x0d, 0xb8, 11: 1, 13: 2, 15: 0xab}
	if s := addrs.Solicited(a); s != (api.Addr{0xff, 0x02, 11: 1, 12: 0xff, 13: 2, 15: 0xab}) {
		t.Errorf("Solicited(%x) = %x", a, s)
	}
	common(t, api.Addr{15: 1}, api.Addr{15: 3}, 126)
	masked(t, api.Addr{0xff, 0xff}, 9, api.Addr{0xff, 0x80})
}

// P6.1: each known address, byte by byte, and again after an answer was changed.
func TestKnown(t *testing.T) {
	for _, c := range []struct {
		name string
		call func() api.Addr
		want [16]byte
	}{
		{"Unspecified", addrs.Unspecified, [16]byte{0, 0, 0, 0, 0, 0, 0, 0, 0, 0, 0, 0, 0, 0, 0, 0}},
		{"Loopback", addrs.Loopback, [16]byte{0, 0, 0, 0, 0, 0, 0, 0, 0, 0, 0, 0, 0, 0, 0, 1}},
		{"AllNodes", addrs.AllNodes, [16]byte{255, 2, 0, 0, 0, 0, 0, 0, 0, 0, 0, 0, 0, 0, 0, 1}},
		{"AllRouters", addrs.AllRouters, [16]byte{255, 2, 0, 0, 0, 0, 0, 0, 0, 0, 0, 0, 0, 0, 0, 2}},
		{"Listeners", addrs.Listeners, [16]byte{255, 2, 0, 0, 0, 0, 0, 0, 0, 0, 0, 0, 0, 0, 0, 22}},
		{"Servers", addrs.Servers, [16]byte{255, 2, 0, 0, 0, 0, 0, 0, 0, 0, 0, 0, 0, 1, 0, 2}},
	} {
		for range 2 {
			a := c.call()
			if a != api.Addr(c.want) {
				t.Errorf("%s = %x", c.name, a)
			}
			for i := range a {
				a[i] ^= 0x55
			}
		}
	}
}

// P6.2: the kinds of the known addresses.
func TestKindsOfKnown(t *testing.T) {
	kinds(t, addrs.Unspecified(), false, false, 0)
	kinds(t, addrs.Loopback(), false, false, 2)
	for _, a := range []api.Addr{addrs.AllNodes(), addrs.AllRouters(), addrs.Listeners(), addrs.Servers()} {
		kinds(t, a, true, false, 2)
	}
}

// P6.2: the first and the last link-local address, and their neighbors on both sides.
func TestLinkLocalEdges(t *testing.T) {
	first := api.Addr{0xfe, 0x80}
	last := full()
	last[0], last[1] = 0xfe, 0xbf
	ahead := last
	ahead[1] = 0x7f
	kinds(t, ahead, false, false, 14)
	kinds(t, first, false, true, 2)
	kinds(t, api.Addr{0xfe, 0x80, 15: 1}, false, true, 2)
	kinds(t, turned(last, 127), false, true, 2)
	kinds(t, last, false, true, 2)
	kinds(t, api.Addr{0xfe, 0xc0}, false, false, 14)
	for at := range 128 {
		link := at >= 10
		scope := 14
		if link {
			scope = 2
		}
		if at == 7 { // ff80:: is multicast, of scope 0
			kinds(t, turned(first, at), true, false, 0)
			continue
		}
		kinds(t, turned(first, at), false, link, scope)
	}
}

// P6.2: multicast addresses of each scope, with any upper half of the second byte; their neighbors are none.
func TestMulticast(t *testing.T) {
	r := rand.New(rand.NewSource(61))
	for second := range 256 {
		for range 20 {
			a := chance(r)
			a[0], a[1] = 255, byte(second)
			kinds(t, a, true, false, second%16)
		}
		kinds(t, api.Addr{255, byte(second)}, true, false, second%16)
	}
	kinds(t, full(), true, false, 15)
	last := full()
	last[0] = 0xfe
	kinds(t, last, false, false, 14)
	for at := range 8 {
		kinds(t, turned(api.Addr{255, 2, 15: 1}, at), false, false, 14)
	}
}

// P6.2: the loopback, the unspecified one, and what differs from them in one bit.
func TestLoopbackAndUnspecified(t *testing.T) {
	kinds(t, api.Addr{}, false, false, 0)
	kinds(t, api.Addr{15: 1}, false, false, 2)
	for at := range 127 {
		kinds(t, turned(api.Addr{}, at), false, false, 14)
		kinds(t, turned(api.Addr{15: 1}, at), false, false, 14)
	}
	kinds(t, api.Addr{0: 1}, false, false, 14)
	kinds(t, api.Addr{14: 1}, false, false, 14)
	kinds(t, api.Addr{15: 2}, false, false, 14)
	kinds(t, api.Addr{15: 3}, false, false, 14)
}

// P6.2: any first two bytes.
func TestKindsByTheirBeginning(t *testing.T) {
	r := rand.New(rand.NewSource(62))
	for n := range 1 << 16 {
		a := chance(r)
		if n%3 == 0 {
			a = api.Addr{}
		}
		a[0], a[1] = byte(n>>8), byte(n)
		kinds(t, a, plainMulticast(a), plainLinkLocal(a), plainScope(a))
	}
}

// P6.2: the last three bytes count, and they alone.
func TestSolicited(t *testing.T) {
	r := rand.New(rand.NewSource(63))
	base := api.Addr{0xff, 0x02, 11: 1, 12: 0xff}
	for _, a := range some(r, 2000) {
		want := base
		want[13], want[14], want[15] = a[13], a[14], a[15]
		s := addrs.Solicited(a)
		if s != want {
			t.Fatalf("Solicited(%x) = %x", a, s)
		}
		kinds(t, s, true, false, 2)
		for at := range 128 {
			want := s
			if at >= 104 {
				want = turned(s, at)
			}
			if got := addrs.Solicited(turned(a, at)); got != want {
				t.Fatalf("Solicited(%x) = %x", turned(a, at), got)
			}
		}
	}
}

// P6.3: the same addresses, and those that part at each bit, whatever lies behind it.
func TestCommonAtEachBit(t *testing.T) {
	r := rand.New(rand.NewSource(64))
	for _, a := range some(r, 50) {
		common(t, a, a, 128)
		for at := range 128 {
			common(t, a, turned(a, at), at)
			common(t, a, turned(near(r, a, at+1), at), at)
		}
	}
}

// P6.3: the bits behind are noughts, those ahead stay; more than 128 are 128.
func TestMaskedEdges(t *testing.T) {
	r := rand.New(rand.NewSource(65))
	for _, c := range []struct {
		bits uint8
		want api.Addr
	}{
		{0, api.Addr{}},
		{1, api.Addr{0x80}},
		{7, api.Addr{0xfe}},
		{8, api.Addr{0xff}},
		{9, api.Addr{0xff, 0x80}},
		{63, api.Addr{0xff, 0xff, 0xff, 0xff, 0xff, 0xff, 0xff, 0xfe}},
		{64, api.Addr{0xff, 0xff, 0xff, 0xff, 0xff, 0xff, 0xff, 0xff}},
		{65, api.Addr{0xff, 0xff, 0xff, 0xff, 0xff, 0xff, 0xff, 0xff, 0x80}},
		{127, turned(full(), 127)},
		{128, full()},
		{129, full()},
		{255, full()},
	} {
		masked(t, full(), c.bits, c.want)
		masked(t, api.Addr{}, c.bits, api.Addr{})
	}
	for _, a := range some(r, 100) {
		for many := range 256 {
			masked(t, a, uint8(many), plainMasked(a, many))
		}
	}
}

// P6.3: the prefix's bits behind its Bits don't count.
func TestWithinEdges(t *testing.T) {
	r := rand.New(rand.NewSource(66))
	for _, a := range some(r, 50) {
		for _, many := range edges {
			last := min(int(many), 128)
			within(t, a, api.Prefix{Addr: a, Bits: many}, true)
			within(t, near(r, a, last), api.Prefix{Addr: a, Bits: many}, true)
			within(t, a, api.Prefix{Addr: near(r, a, last), Bits: many}, true)
			for at := range 128 {
				within(t, turned(a, at), api.Prefix{Addr: a, Bits: many}, at >= last)
				within(t, a, api.Prefix{Addr: turned(a, at), Bits: many}, at >= last)
			}
		}
	}
	tail := api.Addr{0x20, 0x01, 0x0d, 0xb8, 15: 9}
	odd := api.Addr{0x20, 0x01, 0x0d, 0xb8, 7: 1} // parts from it at the 64th bit
	within(t, odd, api.Prefix{Addr: tail, Bits: 63}, true)
	within(t, odd, api.Prefix{Addr: tail, Bits: 64}, false)
	within(t, full(), api.Prefix{}, true)
}

// P6.4: eight bytes of each, whatever the prefix's Bits.
func TestOf(t *testing.T) {
	r := rand.New(rand.NewSource(67))
	ids := [][8]byte{{}, {255, 255, 255, 255, 255, 255, 255, 255}, {1, 2, 3, 4, 5, 6, 7, 8}}
	for _, a := range some(r, 200) {
		for _, many := range edges {
			for _, id := range append(ids, chanceID(r)) {
				var want api.Addr
				for i := range 8 {
					want[i], want[8+i] = a[i], id[i]
				}
				if got := addrs.Of(api.Prefix{Addr: a, Bits: many}, id); got != want {
					t.Fatalf("Of(%x/%d, %x) = %x", a, many, id, got)
				}
			}
		}
	}
}

// P6.3, P6.5: many addresses against a count bit by bit.
func TestAgainstAPlainCount(t *testing.T) {
	r := rand.New(rand.NewSource(68))
	for range 20000 {
		a := chance(r)
		b := near(r, a, r.Intn(129))
		many := uint8(r.Intn(256))
		n := plainCommon(a, b)
		common(t, a, b, n)
		masked(t, a, many, plainMasked(a, int(many)))
		within(t, b, api.Prefix{Addr: a, Bits: many}, n >= min(int(many), 128))
		kinds(t, a, plainMulticast(a), plainLinkLocal(a), plainScope(a))
	}
}

// P6.5: two addresses are in one prefix of as many bits as they have in common, and in none of more.
func TestCommonIsWithin(t *testing.T) {
	r := rand.New(rand.NewSource(69))
	for _, a := range some(r, 300) {
		b := near(r, a, r.Intn(129))
		n := addrs.Common(a, b)
		for many := range 129 {
			p := api.Prefix{Addr: addrs.Masked(a, uint8(many)), Bits: uint8(many)}
			within(t, a, p, true)
			within(t, b, p, many <= n)
			within(t, b, api.Prefix{Addr: a, Bits: uint8(many)}, many <= n)
			if same := addrs.Masked(b, uint8(many)) == p.Addr; same != (many <= n) {
				t.Fatalf("%x and %x, masked to %d bits: the same is %v", a, b, many, same)
			}
		}
	}
}

// P6.5: masked twice is masked once; of two masks the shorter one counts.
func TestMaskedTwice(t *testing.T) {
	r := rand.New(rand.NewSource(70))
	for _, a := range some(r, 100) {
		for many := range 256 {
			once := addrs.Masked(a, uint8(many))
			masked(t, once, uint8(many), once)
			other := uint8(r.Intn(256))
			masked(t, once, other, plainMasked(a, min(many, int(other))))
		}
	}
}
