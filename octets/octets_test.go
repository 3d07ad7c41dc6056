package octets_test

import (
	"bytes"
	"math"
	"math/rand"
	"slices"
	"testing"

	"sojourner/octets"
)

// wrongWidths: as many bytes as no number has.
var wrongWidths = []int{math.MinInt, -8, -1, 0, 9, 16, 64, math.MaxInt}

func upTo(n int) []byte {
	b := make([]byte, n)
	for i := range b {
		b[i] = byte(i + 1)
	}
	return b
}

// value is the number that bytes tell, worked out another way than by the program.
func value(b []byte) uint64 {
	var n, weight uint64 = 0, 1
	for _, x := range slices.Backward(b) {
		n += uint64(x) * weight
		weight *= 256
	}
	return n
}

func wantSound(t *testing.T, c *octets.Cutter, left int) {
	t.Helper()
	if c.Bad() || c.Left() != left {
		t.Errorf("bad %v, left %d; want a sound one with %d left", c.Bad(), c.Left(), left)
	}
}

// wantNothing asks a cutter for everything, twice: it is spoilt, and stays so.
func wantNothing(t *testing.T, c *octets.Cutter) {
	t.Helper()
	for range 2 {
		if !c.Bad() || c.Left() != 0 {
			t.Errorf("bad %v, left %d; want a spoilt one", c.Bad(), c.Left())
		}
		for many := range 10 {
			if n := c.Num(many); n != 0 {
				t.Errorf("Num(%d) of a spoilt one: %d", many, n)
			}
		}
		for _, n := range []int{-1, 0, 1, 2, math.MaxInt, math.MinInt} {
			if b := c.Bytes(n); b != nil {
				t.Errorf("Bytes(%d) of a spoilt one: %v", n, b)
			}
		}
		if b := c.Rest(); b != nil {
			t.Errorf("Rest of a spoilt one: %v", b)
		}
	}
}

func wantExact(t *testing.T, got, want []byte) {
	t.Helper()
	if !bytes.Equal(got, want) {
		t.Errorf("got %v, want %v", got, want)
	}
	if cap(got) != len(got) {
		t.Errorf("room of %d behind %v", cap(got)-len(got), got)
	}
}

func TestChapterExamples(t *testing.T) {
	c := octets.Of([]byte{1, 2, 3, 4})
	if n := c.Num(2); n != 258 {
		t.Error("Num(2)", n)
	}
	if n := c.Left(); n != 2 {
		t.Error("Left", n)
	}
	wantExact(t, c.Bytes(1), []byte{3})
	if n := c.Num(2); n != 0 {
		t.Error("Num(2) of one byte", n)
	}
	if !c.Bad() || c.Left() != 0 || len(c.Rest()) != 0 {
		t.Error("not spoilt", c.Bad(), c.Left())
	}
	wantExact(t, octets.Put([]byte{9}, 258, 3), []byte{9, 0, 1, 2})
	wantExact(t, octets.Put(nil, 258, 1), []byte{2})
}

// P1.1: a copy, that is not spoilt.

func TestOfIsSoundWithAll(t *testing.T) {
	for _, n := range []int{0, 1, 7, 8, 9, 1514} {
		in := upTo(n)
		c := octets.Of(in)
		wantSound(t, c, n)
		wantExact(t, c.Rest(), in)
		wantSound(t, c, 0)
	}
	wantSound(t, octets.Of(nil), 0)
	wantSound(t, octets.Of([]byte{}), 0)
}

func TestOfCopies(t *testing.T) {
	in := []byte{1, 2, 3, 4}
	c := octets.Of(in)
	in[0], in[2] = 77, 88
	wantExact(t, c.Bytes(2), []byte{1, 2})
	wantExact(t, c.Rest(), []byte{3, 4})
}

func TestOfLeavesRoomBehindOut(t *testing.T) {
	in := append(make([]byte, 0, 16), 1, 2, 3)
	c := octets.Of(in)
	wantSound(t, c, 3)
	wantExact(t, c.Rest(), []byte{1, 2, 3})
}

func TestCuttersStandAlone(t *testing.T) {
	in := []byte{1, 2, 3, 4}
	c, d := octets.Of(in), octets.Of(in)
	c.Num(3)
	wantSound(t, d, 4)
	c.Num(0)
	wantSound(t, d, 4)
	wantExact(t, d.Rest(), in)
}

// P1.2: Num.

func TestNumOfEachWidth(t *testing.T) {
	in := []byte{0xf1, 0xe2, 0xd3, 0xc4, 0xb5, 0xa6, 0x97, 0x88, 0x79}
	for many := 1; many <= 8; many++ {
		c := octets.Of(in)
		if n := c.Num(many); n != value(in[:many]) {
			t.Errorf("Num(%d): %x", many, n)
		}
		wantSound(t, c, len(in)-many)
		wantExact(t, c.Rest(), in[many:])
	}
}

func TestNumOfJustAsManyAsAreLeft(t *testing.T) {
	for many := 1; many <= 8; many++ {
		in := bytes.Repeat([]byte{255}, many)
		c := octets.Of(in)
		if n := c.Num(many); n != math.MaxUint64>>(64-8*many) {
			t.Errorf("Num(%d): %x", many, n)
		}
		wantSound(t, c, 0)
	}
}

func TestNumOfOneMoreSpoils(t *testing.T) {
	for many := 1; many <= 8; many++ {
		c := octets.Of(upTo(many - 1))
		if n := c.Num(many); n != 0 {
			t.Errorf("Num(%d) of %d bytes: %d", many, many-1, n)
		}
		wantNothing(t, c)
	}
}

func TestNumOfWrongWidthSpoils(t *testing.T) {
	for _, many := range wrongWidths {
		for _, size := range []int{0, 1, 8, 100} {
			c := octets.Of(upTo(size))
			if n := c.Num(many); n != 0 {
				t.Errorf("Num(%d): %d", many, n)
			}
			wantNothing(t, c)
		}
	}
}

// P1.2: Bytes.

func TestBytesInOrder(t *testing.T) {
	c := octets.Of(upTo(10))
	wantExact(t, c.Bytes(3), []byte{1, 2, 3})
	wantSound(t, c, 7)
	wantExact(t, c.Bytes(0), nil)
	wantSound(t, c, 7)
	wantExact(t, c.Bytes(1), []byte{4})
	wantExact(t, c.Bytes(6), []byte{5, 6, 7, 8, 9, 10})
	wantSound(t, c, 0)
	wantExact(t, c.Bytes(0), nil)
	wantSound(t, c, 0)
}

func TestBytesOfMoreThanEight(t *testing.T) {
	in := upTo(1280)
	c := octets.Of(in)
	wantExact(t, c.Bytes(1279), in[:1279])
	wantSound(t, c, 1)
}

func TestBytesOfWrongManySpoils(t *testing.T) {
	for _, size := range []int{0, 1, 4, 20} {
		for _, n := range []int{math.MinInt, -1, size + 1, size + 2, 1 << 40, math.MaxInt} {
			c := octets.Of(upTo(size))
			if b := c.Bytes(n); b != nil {
				t.Errorf("Bytes(%d) of %d: %v", n, size, b)
			}
			wantNothing(t, c)
		}
	}
}

func TestSpoiltHalfway(t *testing.T) {
	c := octets.Of(upTo(6))
	first := c.Bytes(2)
	c.Bytes(5)
	wantNothing(t, c)
	wantExact(t, first, []byte{1, 2})
}

// P1.3: Rest, Left, Bad.

func TestRestTakesAll(t *testing.T) {
	c := octets.Of(upTo(5))
	c.Num(2)
	wantExact(t, c.Rest(), []byte{3, 4, 5})
	wantSound(t, c, 0)
	wantExact(t, c.Rest(), nil)
	wantSound(t, c, 0)
	c.Num(1)
	wantNothing(t, c)
}

func TestLeftAndBadChangeNothing(t *testing.T) {
	c := octets.Of(upTo(3))
	for range 3 {
		wantSound(t, c, 3)
	}
	wantExact(t, c.Rest(), []byte{1, 2, 3})
}

func TestNotMadeIsSpoilt(t *testing.T) {
	wantNothing(t, nil)
	wantNothing(t, new(octets.Cutter))
	var c octets.Cutter
	wantNothing(t, &c)
}

// R4: what is answered is memory of its own, with nothing in its room behind.

func TestAnswersAreTheirOwn(t *testing.T) {
	in := upTo(8)
	c := octets.Of(in)
	a, b := c.Bytes(3), c.Bytes(2)
	for _, l := range [][]byte{a, b} {
		for i := range l {
			l[i] = 200
		}
		_ = append(l, 201, 202, 203)
	}
	rest := c.Rest()
	wantExact(t, rest, []byte{6, 7, 8})
	rest[0] = 204
	wantExact(t, a, []byte{200, 200, 200})
	wantExact(t, b, []byte{200, 200})
	if !bytes.Equal(in, upTo(8)) {
		t.Error("what was handed in was changed", in)
	}
}

func TestAppendedToNothingStaysApart(t *testing.T) {
	c := octets.Of([]byte{1, 2})
	_ = append(c.Bytes(0), 99)
	wantExact(t, c.Rest(), []byte{1, 2})
}

// P1.4: Put.

func TestPutOfEachWidth(t *testing.T) {
	const n = 0xf1e2d3c4b5a69788
	all := []byte{0xf1, 0xe2, 0xd3, 0xc4, 0xb5, 0xa6, 0x97, 0x88}
	for many := 1; many <= 8; many++ {
		wantExact(t, octets.Put([]byte{5, 6}, n, many), slices.Concat([]byte{5, 6}, all[8-many:]))
		wantExact(t, octets.Put(nil, n, many), all[8-many:])
		wantExact(t, octets.Put([]byte{}, 0, many), make([]byte, many))
	}
}

func TestPutOfWrongWidthTakesEight(t *testing.T) {
	for _, many := range wrongWidths {
		wantExact(t, octets.Put([]byte{7}, 0x0102030405060708, many), []byte{7, 1, 2, 3, 4, 5, 6, 7, 8})
	}
}

func TestPutLeavesOutWhatDoesNotFit(t *testing.T) {
	for many := 1; many < 8; many++ {
		tooBig := uint64(1) << (8 * many)
		wantExact(t, octets.Put(nil, tooBig, many), make([]byte, many))
		wantExact(t, octets.Put(nil, tooBig-1, many), bytes.Repeat([]byte{255}, many))
	}
}

func TestPutLeavesWhatIsHandedIn(t *testing.T) {
	room := append(make([]byte, 0, 32), 1, 2)
	a := octets.Put(room, 3, 1)
	b := octets.Put(room, 4, 1)
	wantExact(t, a, []byte{1, 2, 3})
	wantExact(t, b, []byte{1, 2, 4})
	a[0] = 50
	if !bytes.Equal(room[:32], append([]byte{1, 2}, make([]byte, 30)...)) {
		t.Error("what was handed in was changed", room[:32])
	}
	room[1] = 60
	wantExact(t, a, []byte{50, 2, 3})
}

// P1.5: what was put is cut again.

func TestPutThenCut(t *testing.T) {
	r := rand.New(rand.NewSource(1))
	for range 300 {
		var b []byte
		var want []uint64
		var width []int
		for range r.Intn(20) {
			n, many := r.Uint64(), 1+r.Intn(8)
			b = octets.Put(b, n, many)
			want = append(want, n&(math.MaxUint64>>(64-8*many)))
			width = append(width, many)
		}
		c := octets.Of(b)
		for i, many := range width {
			if n := c.Num(many); n != want[i] {
				t.Errorf("%x of %d bytes came back as %x", want[i], many, n)
			}
		}
		wantSound(t, c, 0)
	}
}
