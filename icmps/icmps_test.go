package icmps_test

import (
	"bytes"
	"math/rand"
	"slices"
	"testing"

	"sojourner/api"
	"sojourner/icmps"
)

var (
	src = api.Addr{0xfe, 0x80, 2, 3, 4, 5, 6, 7, 8, 9, 10, 11, 12, 13, 14, 15}
	dst = api.Addr{0xff, 2, 22, 23, 24, 25, 26, 27, 28, 29, 30, 31, 32, 33, 34, 35}
	one = api.Addr{0x20, 1, 42, 43, 44, 45, 46, 47, 48, 49, 50, 51, 52, 53, 54, 55}
	two = api.Addr{0xff, 5, 62, 63, 64, 65, 66, 67, 68, 69, 70, 71, 72, 73, 74, 75}
)

// upTo is n bytes that differ from those beside them, none of them a nought.
func upTo(n int) []byte {
	b := make([]byte, n)
	for i := range b {
		b[i] = byte(i%255 + 1)
	}
	return b
}

// addrs are n addresses, each another one.
func addrs(n int) []api.Addr {
	l := make([]api.Addr, n)
	for i := range l {
		l[i] = api.Addr{0x20, 1, byte(i >> 8), byte(i), 15: byte(i + 1)}
	}
	return l
}

// opts are n options, each another one.
func opts(n int) []api.Option {
	l := make([]api.Option, n)
	for i := range l {
		l[i] = api.Option{Kind: byte(i + 1), Data: upTo(6 + 8*(i%3))}
	}
	return l
}

// recs are n records, each another one, with sources as many as the place in the list.
func recs(n int) []api.Record {
	l := make([]api.Record, n)
	for i := range l {
		l[i] = api.Record{Kind: byte(i + 1), Group: addrs(n + 1)[i+1], Sources: addrs(i % 4)}
	}
	return l
}

// full is a message of that kind with something in every field, whether its kind has it or not.
func full(kind uint8) api.Message {
	return api.Message{
		Kind: kind, Code: 201, Param: 0xf1e2d3c4, Data: upTo(11), Hops: 64, Flags: 0xe8, Life: 0xa1b2,
		Reachable: 0xc3d4e5f6, Retrans: 0x91827364, Target: one, Dest: two, Options: opts(3), Max: 0x8765,
		Group: two, Robust: 0xfa, Interval: 125, Sources: addrs(3), Records: recs(4),
	}
}

// wantPut tells a fault, if a message's bytes are others than the chapter's, have room behind, or if it is changed.
func wantPut(t *testing.T, m api.Message) []byte {
	t.Helper()
	was := levelled(m)
	b, e := icmps.Put(src, dst, m)
	want, err := plainPut(src, dst, m)
	if e != err || !bytes.Equal(b, want) || e != 0 && b != nil {
		t.Fatalf("Put(%+v) = %v, %d, not %v, %d", m, b, e, want, err)
	}
	if cap(b) != len(b) {
		t.Errorf("Put(%+v): room of %d behind", m, cap(b)-len(b))
	}
	if !same(m, was) {
		t.Errorf("Put made %+v out of %+v", m, was)
	}
	return b
}

// wantGet tells a fault, if bytes come to another message than by the chapter, or to another error, or if they are changed.
func wantGet(t *testing.T, b []byte) (api.Message, api.Errno) {
	t.Helper()
	was := slices.Clone(b)
	m, e := icmps.Get(src, dst, b)
	want, err := plainGet(src, dst, b)
	if e != err || !same(m, want) {
		t.Fatalf("Get(%v) = %+v, %d, not %+v, %d", b, m, e, want, err)
	}
	if e != 0 && !isNone(m) {
		t.Errorf("Get(%v) = %+v beside %d", b, m, e)
	}
	if !bytes.Equal(b, was) {
		t.Errorf("Get made %v out of %v", b, was)
	}
	wantNoRoom(t, m)
	return m, e
}

// isNone tells whether a message is nothing at all, its lists nil.
func isNone(m api.Message) bool {
	return m.Data == nil && m.Options == nil && m.Sources == nil && m.Records == nil && same(m, api.Message{})
}

func wantNoRoom(t *testing.T, m api.Message) {
	t.Helper()
	room := cap(m.Data) - len(m.Data) + cap(m.Options) - len(m.Options) + cap(m.Sources) - len(m.Sources) + cap(m.Records) - len(m.Records)
	for _, o := range m.Options {
		room += cap(o.Data) - len(o.Data)
	}
	for _, r := range m.Records {
		room += cap(r.Sources) - len(r.Sources)
	}
	if room != 0 {
		t.Errorf("room of %d behind the lists of %+v", room, m)
	}
}

func wantErr(t *testing.T, b []byte, want api.Errno) {
	t.Helper()
	if _, e := wantGet(t, b); e != want {
		t.Errorf("Get(%v): error %d, want %d", b, e, want)
	}
}

// whole is bytes with their checksum, of the two addresses that the tests speak between.
func whole(l ...[]byte) []byte { return right(src, dst, l...) }

func TestChapterExamples(t *testing.T) {
	none := api.Addr{}
	b, e := icmps.Put(none, none, api.Message{Kind: 128, Param: 1})
	if e != 0 || !bytes.Equal(b, []byte{128, 0, 127, 188, 0, 0, 0, 1}) {
		t.Error("Put", b, e)
	}
	m, e := icmps.Get(none, none, []byte{128, 0, 127, 188, 0, 0, 0, 1})
	if e != 0 || !same(m, api.Message{Kind: 128, Param: 1}) {
		t.Error("Get", m, e)
	}
	if m, e := icmps.Get(none, none, []byte{128, 0, 127, 187, 0, 0, 0, 1}); e != api.ErrSum || !isNone(m) {
		t.Error("Get of another checksum", m, e)
	}
	if m, e := icmps.Get(none, none, []byte{200, 0, 55, 193}); e != api.ErrNone || !isNone(m) {
		t.Error("Get of no kind", m, e)
	}
}

// P11.1: a message's bytes, of each kind, whatever else is in it.

func TestPutOfEachKind(t *testing.T) {
	for _, kind := range kinds {
		wantPut(t, api.Message{Kind: kind})
		wantPut(t, full(kind))
		wantPut(t, had(full(kind)))
	}
}

// TestPutWrittenOut holds some bytes as they are written out, so that nothing hangs on the tests' own words alone.
func TestPutWrittenOut(t *testing.T) {
	g, h := addrs(1)[0], addrs(2)[1]
	for _, c := range []struct {
		m    api.Message
		want [][]byte
	}{
		{api.Message{Kind: 1, Code: 4, Param: 5, Data: []byte{6, 7}}, [][]byte{{1, 4, 0, 0, 0, 0, 0, 5, 6, 7}}},
		{api.Message{Kind: 2, Param: 1280}, [][]byte{{2, 0, 0, 0, 0, 0, 5, 0}}},
		{api.Message{Kind: 3, Code: 1}, [][]byte{{3, 1, 0, 0, 0, 0, 0, 0}}},
		{api.Message{Kind: 4, Param: 0x01020304}, [][]byte{{4, 0, 0, 0, 1, 2, 3, 4}}},
		{api.Message{Kind: 129, Param: 9, Data: []byte{0}}, [][]byte{{129, 0, 0, 0, 0, 0, 0, 9, 0}}},
		{api.Message{Kind: 130, Max: 258, Group: g, Robust: 10, Interval: 11, Sources: []api.Addr{h}},
			[][]byte{{130, 0, 0, 0, 1, 2, 0, 0}, g[:], {10, 11, 0, 1}, h[:]}},
		{api.Message{Kind: 133, Options: []api.Option{{Kind: 9, Data: []byte{8}}}}, [][]byte{{133, 0, 0, 0, 0, 0, 0, 0, 9, 1, 8, 0, 0, 0, 0, 0}}},
		{api.Message{Kind: 134, Hops: 1, Flags: 2, Life: 0x0304, Reachable: 0x05060708, Retrans: 0x090a0b0c},
			[][]byte{{134, 0, 0, 0, 1, 2, 3, 4, 5, 6, 7, 8, 9, 10, 11, 12}}},
		{api.Message{Kind: 135, Target: g}, [][]byte{{135, 0, 0, 0, 0, 0, 0, 0}, g[:]}},
		{api.Message{Kind: 136, Flags: 96, Target: g}, [][]byte{{136, 0, 0, 0, 96, 0, 0, 0}, g[:]}},
		{api.Message{Kind: 137, Target: g, Dest: h}, [][]byte{{137, 0, 0, 0, 0, 0, 0, 0}, g[:], h[:]}},
		{api.Message{Kind: 143, Records: []api.Record{{Kind: 6, Group: h, Sources: []api.Addr{g}}, {Kind: 2, Group: g}}},
			[][]byte{{143, 0, 0, 0, 0, 0, 0, 2, 6, 0, 0, 1}, h[:], g[:], {2, 0, 0, 0}, g[:]}},
	} {
		if b, e := icmps.Put(src, dst, c.m); e != 0 || !bytes.Equal(b, whole(c.want...)) {
			t.Errorf("Put(%+v) = %v, %d", c.m, b, e)
		}
	}
}

func TestPutOfNoKind(t *testing.T) {
	for kind := range 256 {
		m := full(uint8(kind))
		want := api.Errno(api.OK)
		if !slices.Contains(kinds, m.Kind) {
			want = api.ErrArg
		}
		if b, e := icmps.Put(src, dst, m); e != want || e != 0 && b != nil {
			t.Errorf("kind %d: %v, %d", kind, b, e)
		}
		wantPut(t, m)
	}
}

func TestPutOfLongLists(t *testing.T) {
	for _, kind := range append([]uint8{0, 5, 131, 200}, kinds...) {
		for _, many := range []int{0, 1, 63, 64, 65, 256, 4096} {
			wantPut(t, api.Message{Kind: kind, Options: make([]api.Option, many)})
			wantPut(t, api.Message{Kind: kind, Sources: make([]api.Addr, many)})
			wantPut(t, api.Message{Kind: kind, Records: make([]api.Record, many)})
			wantPut(t, api.Message{Kind: kind, Records: []api.Record{{}, {Sources: make([]api.Addr, many)}, {}}})
		}
	}
}

// TestPutAtItsGreatest tells which lists of which kinds may not be longer, by hand.
func TestPutAtItsGreatest(t *testing.T) {
	for _, kind := range kinds {
		_, hasOptions := optionsAt[kind]
		for _, c := range []struct {
			m    api.Message
			long bool
		}{
			{api.Message{Kind: kind, Options: opts(64), Sources: addrs(64), Records: recs(64)}, false},
			{api.Message{Kind: kind, Options: opts(65)}, hasOptions},
			{api.Message{Kind: kind, Sources: addrs(65)}, kind == 130},
			{api.Message{Kind: kind, Records: recs(65)}, kind == 143},
			{api.Message{Kind: kind, Records: []api.Record{{Sources: addrs(64)}, {Sources: addrs(64)}}}, false},
			{api.Message{Kind: kind, Records: []api.Record{{Sources: addrs(64)}, {Sources: addrs(65)}}}, kind == 143},
			{api.Message{Kind: kind, Records: []api.Record{{Sources: addrs(65)}, {Sources: addrs(1)}}}, kind == 143},
		} {
			b := wantPut(t, c.m)
			if (b == nil) != c.long {
				t.Errorf("kind %d: %d bytes; too long: %v", kind, len(b), c.long)
			}
		}
	}
}

func TestPutOfMuchData(t *testing.T) {
	for _, kind := range reports {
		for _, many := range []int{0, 1, 2, 7, 8, 1232, 1233, 65535, 65536, 200001} {
			m := api.Message{Kind: kind, Code: 3, Param: 7, Data: upTo(many)}
			if b := wantPut(t, m); len(b) != 8+many {
				t.Errorf("%d bytes of Data: %d", many, len(b))
			}
			if got, e := wantGet(t, wantPut(t, m)); e != 0 || !same(got, m) {
				t.Errorf("%d bytes of Data: error %d, %d", many, e, len(got.Data))
			}
		}
	}
}

func TestPutOfOptionsOfAnyLength(t *testing.T) {
	for kind := range optionsAt {
		for _, many := range []int{0, 1, 5, 6, 7, 13, 14, 15, 2037, 2038, 2039, 5000} {
			m := api.Message{Kind: kind, Options: []api.Option{{Kind: 3, Data: upTo(many)}, {Kind: 0}, {Kind: 255, Data: upTo(6)}}}
			if got, e := wantGet(t, wantPut(t, m)); e != 0 || !same(got, had(m)) {
				t.Errorf("Data of %d: %+v, %d", many, got, e)
			}
		}
	}
}

// The checksum is that of these addresses, and of all bytes.

func TestPutSums(t *testing.T) {
	for _, kind := range kinds {
		m := full(kind)
		for _, ends := range [][2]api.Addr{{}, {one, two}, {two, src}, {src, dst}} {
			b, e := icmps.Put(ends[0], ends[1], m)
			want, _ := plainPut(ends[0], ends[1], m)
			if e != 0 || !bytes.Equal(b, want) {
				t.Errorf("Put(%v, ..) = %v, %d", ends, b, e)
			}
			if plainSum(ends[0], ends[1], b) != 0 {
				t.Errorf("Put(%v, ..): its sum is not good", ends)
			}
		}
	}
}

// P11.2: ErrShort, if there are fewer than four bytes, ahead of all else.

func TestGetOfFewBytes(t *testing.T) {
	for _, b := range [][]byte{nil, {}, {128}, {0, 0}, {133, 0, 0}, {255, 255, 255}, {200, 0, 55}} {
		wantErr(t, b, api.ErrShort)
	}
	wantErr(t, []byte{0, 0, 0, 0}, api.ErrSum)
	wantErr(t, []byte{128, 0, 0, 0}, api.ErrSum)
	for kind := range 256 {
		want := api.Errno(api.ErrNone)
		if slices.Contains(kinds, uint8(kind)) {
			want = api.ErrShort
		}
		wantErr(t, whole([]byte{byte(kind), 9, 0, 0}), want)
	}
}

// ErrSum, if they are not good, whatever else is wrong.

func TestGetOfBadSums(t *testing.T) {
	for _, kind := range kinds {
		b, _ := icmps.Put(src, dst, full(kind))
		for bit := range 8 * len(b) {
			bad := slices.Clone(b)
			bad[bit/8] ^= 1 << (bit % 8)
			wantErr(t, bad, api.ErrSum)
		}
		wantErr(t, b[:len(b)-1], api.ErrSum)
		wantErr(t, append(slices.Clone(b), 1), api.ErrSum)
		wantErr(t, append(slices.Clone(b), 0), api.ErrSum)
	}
	noKind := whole([]byte{200, 0, 0, 0})
	noKind[3]++
	wantErr(t, noKind, api.ErrSum)
	tooMany := whole([]byte{143, 0, 0, 0, 0, 0, 0, 65})
	tooMany[2]++
	wantErr(t, tooMany, api.ErrSum)
}

func TestGetOfOtherEnds(t *testing.T) {
	for _, kind := range kinds {
		b, _ := icmps.Put(src, dst, full(kind))
		for _, ends := range [][2]api.Addr{{one, dst}, {src, two}, {{}, dst}, {src, {}}} {
			if m, e := icmps.Get(ends[0], ends[1], b); e != api.ErrSum || !isNone(m) {
				t.Errorf("Get(%v, ..) = %+v, %d", ends, m, e)
			}
		}
		// The sum takes words in any order, so that it can't tell who speaks from who hears.
		if m, e := icmps.Get(dst, src, b); e != 0 || !same(m, had(full(kind))) {
			t.Errorf("Get with both ends changed: %+v, %d", m, e)
		}
		for bit := range 128 {
			end := src
			end[bit/8] ^= 1 << (bit % 8)
			if m, e := icmps.Get(end, dst, b); e != api.ErrSum || !isNone(m) {
				t.Errorf("another source: %+v, %d", m, e)
			}
			end = dst
			end[bit/8] ^= 1 << (bit % 8)
			if m, e := icmps.Get(src, end, b); e != api.ErrSum || !isNone(m) {
				t.Errorf("another destination: %+v, %d", m, e)
			}
		}
	}
}

// A checksum of 65535 is another one than 0, though both come to the same sum.

func TestGetOfSumOfNoughts(t *testing.T) {
	m := api.Message{Kind: 128, Data: []byte{0, 0}}
	for n := range 65536 {
		m.Data[0], m.Data[1] = byte(n>>8), byte(n)
		b, _ := icmps.Put(src, dst, m)
		if b[2] == 0 && b[3] == 0 {
			wantGet(t, b)
			b[2], b[3] = 255, 255
			wantGet(t, b)
			return
		}
	}
	t.Error("no Data has the checksum 0")
}

// ErrNone, if the kind is none, whatever stands behind it.

func TestGetOfNoKind(t *testing.T) {
	for kind := range 256 {
		if slices.Contains(kinds, uint8(kind)) {
			continue
		}
		for _, many := range []int{0, 1, 4, 20, 60, 1400} {
			wantErr(t, whole([]byte{byte(kind), 0, 0, 0}, make([]byte, many)), api.ErrNone)
			wantErr(t, whole([]byte{byte(kind), 0, 0, 0}, upTo(many)), api.ErrNone)
		}
	}
}

// What is got has what its kind has, and nothing else.

func TestGetOfEachKind(t *testing.T) {
	for _, kind := range kinds {
		for _, m := range []api.Message{{Kind: kind}, full(kind), {Kind: kind, Options: opts(64), Sources: addrs(64), Records: recs(64)}} {
			got, e := wantGet(t, wantPut(t, m))
			if e != 0 || !same(got, had(m)) {
				t.Errorf("kind %d: %+v, %d, not %+v", kind, got, e, had(m))
			}
		}
	}
}

// needed is how many bytes each kind needs at least, when it has no lists.
var needed = map[uint8]int{1: 8, 2: 8, 3: 8, 4: 8, 128: 8, 129: 8, 130: 28, 133: 8, 134: 16, 135: 24, 136: 24, 137: 40, 143: 8}

func TestGetOfEachKindCutShort(t *testing.T) {
	for kind, least := range needed {
		b := slices.Concat([]byte{kind, 0, 0, 0}, make([]byte, least-4))
		for n := 4; n < least; n++ {
			wantErr(t, whole(b[:n]), api.ErrShort)
			wantErr(t, whole(b[:4], upTo(n-4)), api.ErrShort)
		}
		wantErr(t, whole(b), api.OK)
	}
}

// TestGetOfListsCutShort cuts messages with lists at every byte: each is too short, but where options end.
func TestGetOfListsCutShort(t *testing.T) {
	for _, kind := range kinds {
		b, _ := icmps.Put(src, dst, full(kind))
		for n := 4; n < len(b); n++ {
			_, e := wantGet(t, whole(b[:n]))
			_, hasOptions := optionsAt[kind]
			switch {
			case n < needed[kind] || kind == 130 || kind == 143:
				if e != api.ErrShort {
					t.Errorf("kind %d cut at %d: error %d", kind, n, e)
				}
			case !hasOptions:
				if e != api.OK {
					t.Errorf("kind %d cut at %d: error %d", kind, n, e)
				}
			case e != api.OK && e != api.ErrForm:
				t.Errorf("kind %d cut at %d: error %d", kind, n, e)
			}
		}
	}
}

// Lists that are told to be too long, and such as there are no bytes for.

func question(many int, l ...[]byte) []byte {
	return whole(slices.Concat([]byte{130, 0, 0, 0, 1, 2, 0, 0}, two[:], []byte{3, 4, byte(many >> 8), byte(many)}), slices.Concat(l...))
}

func report(many int, l ...[]byte) []byte {
	return whole([]byte{143, 0, 0, 0, 0, 0, byte(many >> 8), byte(many)}, slices.Concat(l...))
}

func record(behind, many int, l ...[]byte) []byte {
	return slices.Concat([]byte{5, byte(behind), byte(many >> 8), byte(many)}, one[:], slices.Concat(l...))
}

func TestGetOfSourcesOfQuestion(t *testing.T) {
	all := plainAddrs(addrs(65))
	for _, many := range []int{0, 1, 2, 63, 64} {
		m, e := wantGet(t, question(many, all[:16*many]))
		if e != 0 || !slices.Equal(m.Sources, addrs(many)) {
			t.Errorf("%d sources: %v, %d", many, m.Sources, e)
		}
		for _, less := range []int{1, 15, 16} {
			if many > 0 {
				wantErr(t, question(many, all[:16*many-less]), api.ErrShort)
			}
		}
	}
	for _, many := range []int{65, 66, 255, 256, 320, 65535} {
		wantErr(t, question(many), api.ErrForm)
		wantErr(t, question(many, all), api.ErrForm)
		wantErr(t, question(many, make([]byte, 16*many)), api.ErrForm)
	}
}

func TestGetOfRecords(t *testing.T) {
	all := plainRecords(recs(64))
	m, e := wantGet(t, report(64, all))
	if e != 0 || !same(m, api.Message{Kind: 143, Records: recs(64)}) {
		t.Errorf("64 records: %+v, %d", m, e)
	}
	wantErr(t, report(64, all[:len(all)-1]), api.ErrShort)
	wantErr(t, report(64), api.ErrShort)
	wantErr(t, report(1), api.ErrShort)
	for _, many := range []int{65, 66, 255, 256, 257, 65535} {
		wantErr(t, report(many), api.ErrForm)
		wantErr(t, report(many, all, all), api.ErrForm)
	}
}

func TestGetOfSourcesOfRecord(t *testing.T) {
	all := plainAddrs(addrs(65))
	for _, many := range []int{0, 1, 63, 64} {
		m, e := wantGet(t, report(2, record(0, many, all[:16*many]), record(0, 1, all[:16])))
		if e != 0 || len(m.Records) != 2 || !slices.Equal(m.Records[0].Sources, addrs(many)) || !slices.Equal(m.Records[1].Sources, addrs(1)) {
			t.Errorf("%d sources: %+v, %d", many, m.Records, e)
		}
		if many > 0 {
			wantErr(t, report(1, record(0, many, all[:16*many-1])), api.ErrShort)
		}
	}
	for _, many := range []int{65, 256, 320, 65535} {
		wantErr(t, report(1, record(0, many)), api.ErrForm)
		wantErr(t, report(1, record(0, many, all)), api.ErrForm)
		wantErr(t, report(2, record(0, 1, all[:16]), record(0, many, all)), api.ErrForm)
		wantErr(t, report(2, record(0, 1, all[:16]), []byte{1, 0, byte(many >> 8), byte(many)}), api.ErrForm)
	}
}

// The first thing that is wrong counts: which of two it is, where both are there.

func TestGetTellsTheFirstWrong(t *testing.T) {
	// The sources' number is told ahead of the group, so that it is read although the group is not there.
	wantErr(t, report(1, []byte{1, 0, 0, 65}), api.ErrForm)
	wantErr(t, report(1, []byte{1, 0, 0, 64}), api.ErrShort)
	wantErr(t, report(1, []byte{1, 0, 65}), api.ErrShort)
	wantErr(t, report(2, record(0, 1), []byte{1, 0, 0, 65}), api.ErrShort)
	wantErr(t, report(2, record(0, 65), record(0, 1)), api.ErrForm)
	wantErr(t, report(2, record(0, 65), record(255, 65535)), api.ErrForm)
	wantErr(t, report(2, record(1, 0), []byte{1, 0, 0}), api.ErrShort)
	wantErr(t, report(3, record(0, 0), record(9, 0, upTo(36)), record(0, 65)), api.ErrForm)
	wantErr(t, report(3, record(0, 0), record(9, 0), record(0, 65)), api.ErrShort)
	// A group that is not there comes ahead of how many sources there are.
	wantErr(t, whole([]byte{130, 0, 0, 0, 0, 0, 0, 0}, bytes.Repeat([]byte{255}, 15)), api.ErrShort)
	wantErr(t, whole([]byte{130, 0, 0, 0, 0, 0, 0, 0}, bytes.Repeat([]byte{255}, 19)), api.ErrShort)
	wantErr(t, whole([]byte{130, 0, 0, 0, 0, 0, 0, 0}, bytes.Repeat([]byte{255}, 20)), api.ErrForm)
	// What is ahead of options comes ahead of these.
	wantErr(t, whole([]byte{135, 0, 0, 0, 0, 0, 0, 0}, make([]byte, 15)), api.ErrShort)
	wantErr(t, whole([]byte{135, 0, 0, 0, 0, 0, 0, 0}, make([]byte, 17)), api.ErrForm)
}

// Noughts may be any bytes.

func TestGetOfNoughtsThatAreNone(t *testing.T) {
	noughts := map[uint8][]int{130: {6, 7}, 133: {4, 5, 6, 7}, 135: {4, 5, 6, 7}, 136: {5, 6, 7}, 137: {4, 5, 6, 7}, 143: {4, 5}}
	for kind, places := range noughts {
		b, _ := icmps.Put(src, dst, full(kind))
		for _, at := range places {
			for _, x := range []byte{1, 128, 255} {
				b[at] = x
				m, e := wantGet(t, whole(b))
				if e != 0 || !same(m, had(full(kind))) {
					t.Errorf("kind %d, byte %d is %d: %+v, %d", kind, at, x, m, e)
				}
			}
		}
	}
}

// What stands behind a record's sources is let go, but has to be there.

func TestGetOfBytesBehindSources(t *testing.T) {
	for _, behind := range []int{0, 1, 2, 63, 64, 128, 255} {
		for _, many := range []int{0, 2} {
			l := record(behind, many, plainAddrs(addrs(many)), upTo(4*behind))
			m, e := wantGet(t, report(2, l, record(0, 1, two[:])))
			want := []api.Record{{Kind: 5, Group: one, Sources: addrs(many)}, {Kind: 5, Group: one, Sources: []api.Addr{two}}}
			if e != 0 || !same(m, api.Message{Kind: 143, Records: want}) {
				t.Errorf("%d behind: %+v, %d", behind, m, e)
			}
			wantErr(t, report(1, l), api.OK)
			for less := 1; less <= 4*behind; less += 3 {
				wantErr(t, report(1, l[:len(l)-less]), api.ErrShort)
			}
		}
	}
}

// What stands behind a question to listeners, and behind a listener's report, is let go.

func TestGetOfBytesBehindLists(t *testing.T) {
	for _, kind := range []uint8{130, 143} {
		for _, m := range []api.Message{{Kind: kind}, full(kind)} {
			b, _ := icmps.Put(src, dst, m)
			for _, many := range []int{1, 2, 3, 16, 17, 1000} {
				got, e := wantGet(t, whole(b, upTo(many)))
				if e != 0 || !same(got, had(m)) {
					t.Errorf("%d bytes behind: %+v, %d", many, got, e)
				}
			}
		}
	}
}

// Where options are, their error.

func TestGetOfWrongOptions(t *testing.T) {
	for kind, at := range optionsAt {
		head := append([]byte{kind, 0, 0, 0}, upTo(at-4)...)
		good := plainOptions(opts(3))
		for _, l := range [][]byte{{1}, {0}, {1, 0}, {1, 1}, {1, 1, 0, 0, 0, 0, 0}, {1, 0, 0, 0, 0, 0, 0, 0}, {1, 2, 0, 0, 0, 0, 0, 0}, {1, 1, 2, 3, 4, 5, 6, 7, 8}} {
			wantErr(t, whole(head, l), api.ErrForm)
			wantErr(t, whole(head, good, l), api.ErrForm)
		}
		wantErr(t, whole(head), api.OK)
		wantErr(t, whole(head, good), api.OK)
		wantErr(t, whole(head, plainOptions(opts(64))), api.OK)
		wantErr(t, whole(head, plainOptions(opts(65))), api.ErrForm)
		wantErr(t, whole(head, plainOptions(opts(64)), []byte{1}), api.ErrForm)
	}
}

// R1, R4: what is handed in, or out, is shared with nobody.

// spoil changes all that a message's lists have.
func spoil(m api.Message) {
	for i := range m.Data {
		m.Data[i] ^= 255
	}
	for i := range m.Sources {
		m.Sources[i][3] ^= 255
	}
	for _, o := range m.Options {
		for i := range o.Data {
			o.Data[i] ^= 255
		}
	}
	for i := range m.Records {
		m.Records[i].Kind ^= 255
		for j := range m.Records[i].Sources {
			m.Records[i].Sources[j][3] ^= 255
		}
	}
}

func TestPutSharesNothing(t *testing.T) {
	for _, kind := range kinds {
		m := full(kind)
		b, _ := icmps.Put(src, dst, m)
		was := slices.Clone(b)
		spoil(m)
		if !bytes.Equal(b, was) {
			t.Errorf("kind %d: bytes are shared with what was put", kind)
		}
		spoil(m)
		for i := range b {
			b[i] ^= 255
		}
		if !same(m, full(kind)) {
			t.Errorf("kind %d: what was put is shared with its bytes", kind)
		}
		again, _ := icmps.Put(src, dst, m)
		if !bytes.Equal(again, was) {
			t.Errorf("kind %d: put twice it is %v and %v", kind, was, again)
		}
	}
}

func TestGetSharesNothing(t *testing.T) {
	for _, kind := range kinds {
		b, _ := icmps.Put(src, dst, full(kind))
		was := slices.Clone(b)
		m, _ := icmps.Get(src, dst, b)
		n, _ := icmps.Get(src, dst, b)
		spoil(m)
		if !bytes.Equal(b, was) || !same(n, had(full(kind))) {
			t.Errorf("kind %d: what was got is shared", kind)
		}
		for i := range b {
			b[i] ^= 255
		}
		if !same(n, had(full(kind))) {
			t.Errorf("kind %d: what was got is shared with the bytes", kind)
		}
	}
}

// TestListsOfAnAnswerStandAlone changes one list of an answer, or puts something behind it: the others stay.
func TestListsOfAnAnswerStandAlone(t *testing.T) {
	b, _ := icmps.Put(src, dst, full(143))
	m, _ := icmps.Get(src, dst, b)
	for i := range m.Records {
		_ = append(m.Records[i].Sources, one, two)
		for j := range m.Records[i].Sources {
			m.Records[i].Sources[j] = api.Addr{}
		}
		m.Records[i].Sources = recs(4)[i].Sources
	}
	if !same(m, had(full(143))) {
		t.Errorf("records share: %+v", m.Records)
	}
	b, _ = icmps.Put(src, dst, full(134))
	m, _ = icmps.Get(src, dst, b)
	for i := range m.Options {
		_ = append(m.Options[i].Data, 1, 2, 3)
		for j := range m.Options[i].Data {
			m.Options[i].Data[j] = 0
		}
		m.Options[i].Data = filled(opts(3)[i].Data)
	}
	if !same(m, had(full(134))) {
		t.Errorf("options share: %+v", m.Options)
	}
}

// P11.3: what is put is got; what is got, and put, is as long at most, and got again the same.

// randomly is a message of a kind, with anything in its fields.
func randomly(r *rand.Rand) api.Message {
	m := full(kinds[r.Intn(len(kinds))])
	m.Code, m.Param, m.Hops, m.Flags = byte(r.Int()), r.Uint32(), byte(r.Int()), byte(r.Int())
	m.Life, m.Reachable, m.Retrans, m.Max = uint16(r.Int()), r.Uint32(), r.Uint32(), uint16(r.Int())
	m.Robust, m.Interval = byte(r.Int()), byte(r.Int())
	m.Data = randomBytes(r, r.Intn(60))
	m.Target, m.Dest, m.Group = randomAddr(r), randomAddr(r), randomAddr(r)
	m.Options, m.Sources, m.Records = nil, nil, nil
	for range r.Intn(5) {
		m.Options = append(m.Options, api.Option{Kind: byte(r.Int()), Data: randomBytes(r, r.Intn(30))})
		m.Sources = append(m.Sources, randomAddr(r))
		m.Records = append(m.Records, api.Record{Kind: byte(r.Int()), Group: randomAddr(r), Sources: slices.Clone(m.Sources[:r.Intn(len(m.Sources)+1)])})
	}
	return m
}

func randomBytes(r *rand.Rand, n int) []byte {
	b := make([]byte, n)
	r.Read(b)
	return b
}

func randomAddr(r *rand.Rand) (a api.Addr) {
	r.Read(a[:])
	return a
}

func TestPutThenGet(t *testing.T) {
	r := rand.New(rand.NewSource(11))
	for range 5000 {
		m := randomly(r)
		got, e := wantGet(t, wantPut(t, m))
		if e != 0 || !same(got, had(m)) {
			t.Fatalf("%+v was put, %+v, %d was got", m, got, e)
		}
	}
}

// wantAgain puts what was got, and gets it again.
func wantAgain(t *testing.T, b []byte, m api.Message) {
	t.Helper()
	c := wantPut(t, m)
	n, e := wantGet(t, c)
	if len(c) > len(b) || e != 0 || !same(n, m) {
		t.Fatalf("%v was got as %+v, that put as %v, that got as %+v, %d", b, m, c, n, e)
	}
}

func TestGetThenPut(t *testing.T) {
	r := rand.New(rand.NewSource(12))
	good := 0
	for range 15000 {
		b, _ := icmps.Put(src, dst, randomly(r))
		// A byte or two is another one, some are behind, or some are not there.
		for range r.Intn(3) {
			b[4+r.Intn(len(b)-4)] = byte(r.Intn(4))
		}
		b = append(b, randomBytes(r, r.Intn(9))...)
		b = whole(b[:max(4, len(b)-r.Intn(10))])
		if m, e := wantGet(t, b); e == 0 {
			good++
			wantAgain(t, b, m)
		}
	}
	if good < 2000 {
		t.Error("only so many could be got:", good)
	}
}

func TestGetOfAnyBytes(t *testing.T) {
	r := rand.New(rand.NewSource(13))
	for range 15000 {
		b := randomBytes(r, 4+r.Intn(80))
		b[0] = kinds[r.Intn(len(kinds))]
		if len(b) > 8 && r.Intn(2) == 0 {
			copy(b[6:], []byte{0, byte(r.Intn(3)), byte(r.Intn(9)), byte(r.Intn(3)), 0, byte(r.Intn(3))}[:min(6, len(b)-6)])
		}
		b = whole(b)
		if m, e := wantGet(t, b); e == 0 {
			wantAgain(t, b, m)
		}
	}
}
