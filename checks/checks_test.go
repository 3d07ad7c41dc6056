package checks_test

import (
	"fmt"
	"math/rand"
	"reflect"
	"slices"
	"testing"

	"sojourner/api"
	"sojourner/checks"
)

var (
	none     = api.Addr{}
	loopback = api.Addr{15: 1}
	local    = api.Addr{0xfe, 0x80, 15: 1}
	lastOne  = api.Addr{0xfe, 0xbf, 2: 255, 15: 255}
	below    = api.Addr{0xfe, 0x7f, 15: 1}
	site     = api.Addr{0xfe, 0xc0, 15: 1}
	wide     = api.Addr{0x20, 1, 0x0d, 0xb8, 13: 7, 14: 8, 15: 9}
	other    = api.Addr{0x20, 1, 0x0d, 0xb8, 13: 7, 14: 8, 15: 10}
	nodes    = api.Addr{0xff, 2, 15: 1}
	world    = api.Addr{0xff, 0x0e, 13: 7, 14: 8, 15: 9}
	group    = api.Addr{0xff, 2, 11: 1, 12: 0xff, 13: 7, 14: 8, 15: 9} // the solicited address of wide
	ones     = api.Addr{255, 255, 255, 255, 255, 255, 255, 255, 255, 255, 255, 255, 255, 255, 255, 255}
)

// looked are the kinds that have conditions.
var looked = []uint8{130, 133, 134, 135, 136, 137, 143}

func opts(kinds ...uint8) []api.Option {
	l := []api.Option{}
	for i, k := range kinds {
		l = append(l, api.Option{Kind: k, Data: []byte{1, 1, byte(i), 1, 1, 1}})
	}
	return l
}

// want tells a fault, if a message counts otherwise than it should, or by the plain words, or if something is changed.
func want(t *testing.T, p api.Packet, m api.Message, count bool) {
	t.Helper()
	packet, message := copied(p, m)
	if got := checks.Valid(p, m); got != count || plainValid(p, m) != count {
		t.Errorf("Valid(%+v, %+v) = %v, by the plain words %v, not %v", p, m, got, plainValid(p, m), count)
	}
	if !reflect.DeepEqual(p, packet) || !reflect.DeepEqual(m, message) {
		t.Errorf("Valid made %+v, %+v out of %+v, %+v", p, m, packet, message)
	}
}

// copied are a packet and a message with lists of their own, up to all of their room.
func copied(p api.Packet, m api.Message) (api.Packet, api.Message) {
	p.Body, m.Data = slices.Clone(p.Body), slices.Clone(m.Data)
	m.Options, m.Sources, m.Records = slices.Clone(m.Options), slices.Clone(m.Sources), slices.Clone(m.Records)
	for i := range m.Options {
		m.Options[i].Data = slices.Clone(m.Options[i].Data)
	}
	for i := range m.Records {
		m.Records[i].Sources = slices.Clone(m.Records[i].Sources)
	}
	return p, m
}

// good is a packet and a message of that kind that counts in it, whatever else is not said of the kind.
func good(kind uint8) (api.Packet, api.Message) {
	p := api.Packet{Src: local, Dst: wide, Hops: 255}
	m := api.Message{Kind: kind, Target: wide, Dest: wide}
	if kind == 130 || kind == 143 {
		p.Hops, p.Alert = 1, true
	}
	return p, m
}

func TestChapterExamples(t *testing.T) {
	m := api.Message{Kind: 134}
	want(t, api.Packet{Src: local, Hops: 255}, m, true)
	want(t, api.Packet{Src: local, Hops: 254}, m, false)
	want(t, api.Packet{Src: loopback, Hops: 255}, m, false)
	p := api.Packet{Dst: api.Addr{0xff, 2, 11: 1, 12: 0xff, 15: 9}, Hops: 255}
	m = api.Message{Kind: 135, Target: api.Addr{0xfe, 0x80, 15: 9}}
	want(t, p, m, true)
	m.Options = opts(1)
	want(t, p, m, false)
}

func TestHops(t *testing.T) {
	for _, kind := range looked {
		p, m := good(kind)
		right := p.Hops
		for hops := range 256 {
			p.Hops = uint8(hops)
			want(t, p, m, p.Hops == right)
		}
	}
}

func TestCode(t *testing.T) {
	for _, kind := range looked {
		p, m := good(kind)
		for code := range 256 {
			m.Code = uint8(code)
			want(t, p, m, code == 0)
		}
	}
}

func TestSources(t *testing.T) {
	all := []api.Addr{none, loopback, local, lastOne, below, site, wide, nodes, world, ones}
	count := map[uint8][]api.Addr{
		130: {local, lastOne}, 134: {local, lastOne}, 137: {local, lastOne},
		143: {local, lastOne, none},
		133: all, 135: all, 136: all,
	}
	for _, kind := range looked {
		p, m := good(kind)
		if kind == 135 {
			p.Dst = group
		}
		for _, src := range all {
			p.Src = src
			want(t, p, m, slices.Contains(count[kind], src))
		}
	}
}

// TestSourceEachBit: a source is the unspecified address with no bit set alone, and link-local by its first ten.
func TestSourceEachBit(t *testing.T) {
	for at := range 128 {
		for _, kind := range []uint8{130, 134, 137, 143} {
			p, m := good(kind)
			p.Src[at/8] ^= 128 >> (at % 8)
			want(t, p, m, at >= 10)
			p.Src = none
			p.Src[at/8] ^= 128 >> (at % 8)
			want(t, p, m, false)
		}
		for _, kind := range []uint8{133, 135} {
			p, m := good(kind)
			m.Options = opts(1)
			p.Src, p.Dst = none, group
			want(t, p, m, false)
			p.Src[at/8] ^= 128 >> (at % 8)
			want(t, p, m, true)
		}
	}
}

func TestOptionOne(t *testing.T) {
	with := [][]api.Option{opts(1), opts(1, 2, 3), opts(2, 1, 3), opts(2, 3, 1), opts(1, 1), {{Kind: 1}}, {{Kind: 14}, {Kind: 1, Data: []byte{}}}}
	without := [][]api.Option{nil, {}, opts(2), opts(0), opts(255), opts(2, 3, 5, 14, 24, 25, 31), {{Kind: 2, Data: []byte{1, 1, 1, 1, 1, 1}}}}
	for _, kind := range looked {
		p, m := good(kind)
		for _, m.Options = range slices.Concat(with, without) {
			want(t, p, m, true)
		}
		p.Src, p.Dst = none, group
		asks := kind == 133 || kind == 135
		free := asks || kind == 136 || kind == 143
		for _, m.Options = range with {
			want(t, p, m, free && !asks)
		}
		for _, m.Options = range without {
			want(t, p, m, free)
		}
	}
}

// TestBehindOptions: what lies in a list's room behind its end is no option.
func TestBehindOptions(t *testing.T) {
	p := api.Packet{Dst: group, Hops: 255}
	room := opts(2, 1)
	for _, kind := range []uint8{133, 135} {
		m := api.Message{Kind: kind, Target: wide, Options: room[:1]}
		want(t, p, m, true)
		m.Options = room
		want(t, p, m, false)
	}
	if room[1].Kind != 1 {
		t.Error("the room was changed")
	}
}

func TestTargetIsForOne(t *testing.T) {
	for _, kind := range []uint8{135, 136} {
		p, m := good(kind)
		for _, m.Target = range []api.Addr{none, loopback, local, lastOne, site, wide, other, {0xfe, 0xff}} {
			want(t, p, m, true)
		}
		for _, m.Target = range []api.Addr{{0xff}, nodes, world, group, ones} {
			want(t, p, m, false)
			// At its own solicited address, too.
			q := p
			q.Src, q.Dst = none, api.Addr{0xff, 2, 11: 1, 12: 0xff, 13: m.Target[13], 14: m.Target[14], 15: m.Target[15]}
			want(t, q, m, false)
		}
	}
	for _, kind := range []uint8{130, 133, 134, 143} {
		p, m := good(kind)
		m.Target, m.Dest = nodes, world
		want(t, p, m, true)
	}
}

func TestSolicitedDestination(t *testing.T) {
	p, m := good(135)
	p.Src, p.Dst = none, group
	want(t, p, m, true)
	for at := range 128 {
		off := p
		off.Dst[at/8] ^= 128 >> (at % 8)
		want(t, off, m, false)
		off.Src = wide
		want(t, off, m, true)
		// Of the target the last 24 bits alone are in it.
		turned := m
		turned.Target[at/8] ^= 128 >> (at % 8)
		want(t, p, turned, at < 104)
	}
	for _, p.Dst = range []api.Addr{none, wide, nodes, world, other, ones} {
		want(t, p, m, false)
	}
	// Questions to routers, and words of neighbors, may go anywhere.
	for _, kind := range []uint8{133, 136} {
		p, m := good(kind)
		p.Src = none
		for _, p.Dst = range []api.Addr{none, wide, nodes, world, other, ones, local} {
			want(t, p, m, true)
		}
	}
}

func TestAskedFlag(t *testing.T) {
	p, m := good(136)
	for flags := range 256 {
		m.Flags = uint8(flags)
		for _, p.Dst = range []api.Addr{none, loopback, local, wide, site, {0xfe, 0xff}, {15: 255}} {
			want(t, p, m, true)
		}
		for _, p.Dst = range []api.Addr{{0xff}, nodes, world, group, ones} {
			want(t, p, m, flags&64 == 0)
		}
	}
	for _, kind := range looked {
		if kind != 136 {
			p, m := good(kind)
			p.Dst, m.Flags = nodes, 255
			want(t, p, m, true)
		}
	}
}

func TestBetterWay(t *testing.T) {
	p, m := good(137)
	for _, c := range []struct {
		target, dest api.Addr
		count        bool
	}{
		{local, wide, true}, {lastOne, wide, true}, {local, local, true}, {local, none, true},
		{wide, wide, true}, {none, none, true}, {loopback, loopback, true}, {site, site, true},
		{wide, other, false}, {site, wide, false}, {below, wide, false}, {none, wide, false}, {wide, local, false},
		{local, nodes, false}, {nodes, nodes, false}, {wide, world, false}, {ones, ones, false}, {local, api.Addr{0xff}, false},
		{nodes, wide, false}, {world, wide, false},
	} {
		m.Target, m.Dest = c.target, c.dest
		want(t, p, m, c.count)
	}
	m.Target = wide
	for at := range 128 {
		m.Dest = wide
		m.Dest[at/8] ^= 128 >> (at % 8)
		want(t, p, m, false)
	}
}

func TestAlert(t *testing.T) {
	for _, kind := range looked {
		p, m := good(kind)
		asksAlert := p.Alert
		p.Alert = true
		want(t, p, m, true)
		p.Alert = false
		want(t, p, m, !asksAlert)
		if kind == 143 {
			p.Src = none
			want(t, p, m, false)
		}
	}
}

// TestOtherKinds: they count in any packet, with whatever they have.
func TestOtherKinds(t *testing.T) {
	r := rand.New(rand.NewSource(1))
	for kind := range 256 {
		if slices.Contains(looked, uint8(kind)) {
			continue
		}
		want(t, api.Packet{}, api.Message{Kind: uint8(kind)}, true)
		for range 20 {
			p, m := chance(r)
			m.Kind = uint8(kind)
			want(t, p, m, true)
		}
	}
}

// TestNotLookedAt: what no condition speaks of may be anything.
func TestNotLookedAt(t *testing.T) {
	for _, kind := range looked {
		p, m := good(kind)
		for _, p.Body = range [][]byte{nil, {}, {1}, {136, 1, 0, 0}, make([]byte, 2000)} {
			want(t, p, m, true)
		}
		for next := range 256 {
			p.Next = uint8(next)
			want(t, p, m, true)
		}
		for _, p.Frag = range []api.Frag{{Is: true}, {ID: 1}, {Is: true, ID: 9, Offset: 65535, More: true}, {Offset: 1}, {More: true}} {
			want(t, p, m, true)
		}
		m.Param, m.Data, m.Hops, m.Life, m.Reachable, m.Retrans = 1, []byte{1}, 1, 1, 1, 1
		m.Max, m.Group, m.Robust, m.Interval = 1, wide, 1, 1
		m.Sources, m.Records = []api.Addr{nodes}, []api.Record{{Kind: 9, Group: wide, Sources: []api.Addr{none}}}
		want(t, p, m, true)
	}
}

// TestBytesOfOptions: those of options that are not of the kind 1 make no difference. (P12.2)
func TestBytesOfOptions(t *testing.T) {
	for _, kind := range looked {
		p, m := good(kind)
		for _, data := range [][]byte{nil, {}, {1}, {1, 1, 1, 1, 1, 1}, make([]byte, 14), make([]byte, 5000)} {
			for _, k := range []uint8{0, 2, 3, 5, 14, 24, 25, 31, 255} {
				m.Options = []api.Option{{Kind: k, Data: data}, {Kind: k, Data: data}}
				want(t, p, m, true)
			}
		}
	}
}

// TestNeighborsAtOtherHops: none of their messages counts, whatever else it has. (P12.2)
func TestNeighborsAtOtherHops(t *testing.T) {
	r := rand.New(rand.NewSource(2))
	for _, kind := range []uint8{133, 134, 135, 136, 137} {
		for hops := range 255 {
			p, m := chance(r)
			p.Hops, m.Kind = uint8(hops), kind
			want(t, p, m, false)
			p, m = good(kind)
			p.Hops = uint8(hops)
			want(t, p, m, false)
		}
	}
}

// pick is one of a list, by chance.
func pick[T any](r *rand.Rand, l ...T) T { return l[r.Intn(len(l))] }

// chance is a packet and a message of values that come near to what the conditions ask.
func chance(r *rand.Rand) (api.Packet, api.Message) {
	some := func() api.Addr {
		return pick(r, none, loopback, local, lastOne, below, site, wide, other, nodes, world, group, ones)
	}
	p := api.Packet{
		Src: pick(r, none, local, some()), Dst: pick(r, group, some()), Hops: pick[uint8](r, 255, 255, 255, 1, 1, 1, 0, 2, 254),
		Alert: r.Intn(2) == 0, Next: uint8(r.Intn(256)), Body: make([]byte, r.Intn(9)),
		Frag: api.Frag{Is: r.Intn(2) == 0, ID: r.Uint32(), More: r.Intn(2) == 0},
	}
	m := api.Message{
		Kind: pick[uint8](r, looked...), Code: pick[uint8](r, 0, 0, 0, 0, 1, 255), Flags: uint8(r.Intn(256)),
		Target: pick(r, wide, local, some()), Dest: pick(r, wide, some()), Group: some(),
		Options: pick(r, nil, opts(2, 3), opts(1), opts(14, 1), opts(1, 2), opts(2, 1, 5)),
	}
	return p, m
}

func TestAgainstThePlainWords(t *testing.T) {
	r := rand.New(rand.NewSource(3))
	seen := map[string]int{}
	for range 100000 {
		p, m := chance(r)
		count := plainValid(p, m)
		if got := checks.Valid(p, m); got != count {
			t.Fatalf("Valid(%+v, %+v) = %v", p, m, got)
		}
		seen[fmt.Sprint(m.Kind, count)]++
	}
	for _, kind := range looked {
		if seen[fmt.Sprint(kind, true)] < 300 || seen[fmt.Sprint(kind, false)] < 300 {
			t.Errorf("kind %d: too few that count, or that don't: %v", kind, seen)
		}
	}
}
