package sums_test

import (
	"bytes"
	"math/rand"
	"slices"
	"testing"

	"sojourner/api"
	"sojourner/sums"
)

// plain is the checksum by the words of the chapter, word by word, of one list.
func plain(b []byte) uint16 {
	sum := 0
	for len(b) > 0 {
		word := int(b[0]) * 256
		if len(b) > 1 {
			word += int(b[1])
		}
		sum += word
		if sum > 65535 {
			sum -= 65535
		}
		b = b[min(2, len(b)):]
	}
	return uint16(65535 - sum)
}

// laid is the pseudo header, and the bytes, as one list.
func laid(src, dst api.Addr, next uint8, b []byte) []byte {
	n := len(b)
	return slices.Concat(src[:], dst[:], []byte{byte(n >> 24), byte(n >> 16), byte(n >> 8), byte(n), 0, 0, 0, next}, b)
}

func same(n int, b byte) []byte { return bytes.Repeat([]byte{b}, n) }

func chance(r *rand.Rand, n int) []byte {
	b := make([]byte, n)
	r.Read(b)
	return b
}

func chanceAddr(r *rand.Rand) (a api.Addr) {
	r.Read(a[:])
	return a
}

func TestChapterExamples(t *testing.T) {
	for _, c := range []struct {
		lists [][]byte
		want  uint16
	}{
		{nil, 65535},
		{[][]byte{{0, 1}}, 65534},
		{[][]byte{{0, 1, 242, 3, 244, 245, 246, 247}}, 8717},
		{[][]byte{{0}, {1}}, 65534},
		{[][]byte{{255, 255}}, 0},
	} {
		if n := sums.Of(c.lists...); n != c.want {
			t.Errorf("Of(%v) = %d, want %d", c.lists, n, c.want)
		}
	}
}

func TestOfNoBytes(t *testing.T) {
	for _, lists := range [][][]byte{nil, {}, {nil}, {{}}, {nil, {}, nil}} {
		if n := sums.Of(lists...); n != 65535 {
			t.Errorf("Of(%v) = %d", lists, n)
		}
	}
}

func TestOfWords(t *testing.T) {
	for _, c := range []struct {
		b   []byte
		sum int
	}{
		{[]byte{0}, 0},
		{[]byte{1}, 256},
		{[]byte{255}, 65280},
		{[]byte{1, 2}, 258},
		{[]byte{1, 2, 3}, 258 + 768},
		{[]byte{1, 2, 3, 0}, 258 + 768},
		{[]byte{0, 0, 0, 0}, 0},
		{same(1000, 0), 0},
		{[]byte{255, 255}, 65535},
		{[]byte{255, 255, 0, 0}, 65535},
		{[]byte{0, 0, 255, 255, 0}, 65535},
		{[]byte{255, 254, 0, 1}, 65535},
		{[]byte{255, 254, 0, 2}, 1},
		{[]byte{255, 255, 0, 1}, 1},
		{[]byte{128, 0, 128, 0}, 1},
		{[]byte{127, 255, 128, 0}, 65535},
		{[]byte{255, 0, 1}, 1},
		{[]byte{255, 0, 0, 255}, 65535},
		{[]byte{255, 255, 255, 255}, 65535},
		{same(200000, 255), 65535},
		{same(200001, 255), 65280},
		{same(131070, 1), 65535}, // 65535 words of 257
	} {
		if n := sums.Of(c.b); n != uint16(65535-c.sum) {
			t.Errorf("Of(%d bytes from %v) = %d, want %d", len(c.b), c.b[:min(8, len(c.b))], n, 65535-c.sum)
		}
	}
}

// Lists of odd length let a word go from one into the next, over lists without bytes too.
func TestOfListsBehindEachOther(t *testing.T) {
	for _, lists := range [][][]byte{
		{{1}, {2}},
		{{1, 2, 3}, {4}},
		{{1, 2, 3}, {4, 5}},
		{{1, 2, 3}, {4, 5, 6}, {7}},
		{{1}, {}, nil, {2}, {3}},
		{nil, {1, 2}, {}, {3, 4}},
		{{255}, {255}},
		{{255}, {255, 0}, {1}},
	} {
		if n, want := sums.Of(lists...), plain(slices.Concat(lists...)); n != want {
			t.Errorf("Of(%v) = %d, want %d", lists, n, want)
		}
	}
	if sums.Of([]byte{1}, []byte{2}) == sums.Of([]byte{1, 0}, []byte{2, 0}) {
		t.Error("an odd byte counts as a word of its own, though another list is behind it")
	}
}

func TestOfCutAnywhere(t *testing.T) {
	r := rand.New(rand.NewSource(2))
	for range 300 {
		b := chance(r, r.Intn(60))
		want := plain(b)
		i := r.Intn(len(b) + 1)
		j := i + r.Intn(len(b)-i+1)
		if n := sums.Of(b[:i], b[i:j], b[j:]); n != want {
			t.Fatalf("Of(%v cut at %d and %d) = %d, want %d", b, i, j, n, want)
		}
	}
}

func TestAllPairsOfWords(t *testing.T) {
	edges := []int{0, 1, 2, 255, 256, 257, 32767, 32768, 65279, 65280, 65533, 65534, 65535}
	for _, x := range edges {
		for _, y := range edges {
			sum := x + y
			if sum > 65535 {
				sum -= 65535
			}
			b := []byte{byte(x >> 8), byte(x), byte(y >> 8), byte(y)}
			if n := sums.Of(b); n != uint16(65535-sum) {
				t.Errorf("words %d and %d: %d, want %d", x, y, n, 65535-sum)
			}
		}
	}
}

func TestOverIsOfThePseudoHeader(t *testing.T) {
	r := rand.New(rand.NewSource(3))
	for n := range 200 {
		src, dst, next, b := chanceAddr(r), chanceAddr(r), uint8(r.Intn(256)), chance(r, n)
		got, want := sums.Over(src, dst, next, b), plain(laid(src, dst, next, b))
		if got != want {
			t.Fatalf("Over(%v, %v, %d, %v) = %d, want %d", src, dst, next, b, got, want)
		}
		if good := sums.Good(src, dst, next, b); good != (want == 0) {
			t.Fatalf("Good(%v, %v, %d, %v) = %v", src, dst, next, b, good)
		}
	}
}

// One field at a time, so that each one is seen at its place.
func TestOverField(t *testing.T) {
	var none api.Addr
	for i := range 16 {
		weight := uint16(1)
		if i%2 == 0 {
			weight = 256
		}
		var a api.Addr
		a[i] = 200
		if n := sums.Over(a, none, 0, nil); n != 65535-200*weight {
			t.Errorf("source's byte %d: %d", i, n)
		}
		if n := sums.Over(none, a, 0, nil); n != 65535-200*weight {
			t.Errorf("target's byte %d: %d", i, n)
		}
	}
	for _, next := range []uint8{0, 1, 6, 17, 58, 255} {
		if n := sums.Over(none, none, next, nil); n != 65535-uint16(next) {
			t.Errorf("protocol %d: %d", next, n)
		}
	}
	if n := sums.Over(none, none, 0, []byte{1}); n != 65535-1-256 {
		t.Errorf("one byte: %d", n)
	}
}

func TestOverLength(t *testing.T) {
	var none api.Addr
	for _, c := range []struct {
		many int
		want uint16
	}{
		{0, 65535},
		{1, 65534},
		{255, 65535 - 255},
		{256, 65535 - 256},
		{65535, 0},
		{65536, 65534},
		{70000, 65535 - 4464 - 1},
		{131071, 65534}, // the words 1 and 65535
		{1<<24 + 5, 65535 - 256 - 5},
	} {
		if n := sums.Over(none, none, 0, make([]byte, c.many)); n != c.want {
			t.Errorf("%d noughts: %d, want %d", c.many, n, c.want)
		}
	}
}

func TestGood(t *testing.T) {
	var none api.Addr
	if sums.Good(none, none, 0, nil) {
		t.Error("noughts alone are good")
	}
	if !sums.Good(api.Addr{255, 255}, none, 0, nil) || !sums.Good(none, api.Addr{14: 255, 15: 255}, 0, nil) {
		t.Error("a sum of just 65535 is not good")
	}
	if sums.Good(api.Addr{255, 255}, none, 1, nil) || sums.Good(api.Addr{255, 254}, none, 0, nil) {
		t.Error("a sum beside 65535 is good")
	}
}

func TestGoodOfOneThatWasPut(t *testing.T) {
	src, dst := api.Addr{254, 128, 15: 1}, api.Addr{255, 2, 15: 2}
	b := []byte{128, 0, 0, 0, 1, 2, 3}
	n := sums.Over(src, dst, 58, b)
	b[2], b[3] = byte(n>>8), byte(n)
	if !sums.Good(src, dst, 58, b) {
		t.Fatal("not good, though the checksum was put")
	}
	for i := range b {
		wrong := slices.Clone(b)
		wrong[i] ^= 1
		if sums.Good(src, dst, 58, wrong) {
			t.Errorf("good, though byte %d is another one", i)
		}
	}
	for i := range 16 {
		far := src
		far[i] ^= 128
		if sums.Good(far, dst, 58, b) {
			t.Errorf("good, though the source's byte %d is another one", i)
		}
		far = dst
		far[i] ^= 128
		if sums.Good(src, far, 58, b) {
			t.Errorf("good, though the target's byte %d is another one", i)
		}
	}
	if sums.Good(src, dst, 57, b) || sums.Good(src, dst, 58, append(b, 0)) {
		t.Error("good, though protocol or length is another one")
	}
}

func TestPutMakesNought(t *testing.T) {
	r := rand.New(rand.NewSource(4))
	for range 300 {
		b := chance(r, 2+r.Intn(50))
		at := r.Intn(len(b)/2) * 2
		b[at], b[at+1] = 0, 0
		if slices.Max(b) == 0 {
			continue
		}
		n := sums.Of(b)
		b[at], b[at+1] = byte(n>>8), byte(n)
		if n := sums.Of(b); n != 0 {
			t.Fatalf("Of(%v) = %d, though its checksum was put at %d", b, n, at)
		}
	}
}

// Of noughts alone the checksum is 65535, and with it put there the sum is 65535 too.
func TestPutIntoNoughts(t *testing.T) {
	if n := sums.Of(same(6, 0)); n != 65535 {
		t.Errorf("of noughts: %d", n)
	}
	if n := sums.Of([]byte{0, 0, 255, 255, 0, 0}); n != 0 {
		t.Errorf("of noughts with their checksum: %d", n)
	}
}

func TestPutThatIsNought(t *testing.T) {
	b := []byte{255, 255, 0, 0}
	if n := sums.Of(b); n != 0 {
		t.Errorf("Of(%v) = %d", b, n)
	}
}

func TestWordsInAnyOrder(t *testing.T) {
	r := rand.New(rand.NewSource(5))
	for range 300 {
		words := make([][]byte, r.Intn(20))
		for i := range words {
			words[i] = chance(r, 2)
		}
		want := sums.Of(words...)
		r.Shuffle(len(words), func(i, j int) { words[i], words[j] = words[j], words[i] })
		if n := sums.Of(words...); n != want {
			t.Fatalf("Of(%v) = %d, in another order %d", words, n, want)
		}
	}
}

func TestBytesStayAsTheyWere(t *testing.T) {
	room := upTo(20)
	lists := [][]byte{room[0:3], room[3:4], nil, room[4:9:12]}
	before := slices.Clone(room)
	outer := slices.Clone(lists)
	sums.Of(lists...)
	sums.Over(api.Addr{1}, api.Addr{2}, 58, room[:7])
	sums.Good(api.Addr{1}, api.Addr{2}, 58, room[:0])
	if !bytes.Equal(room, before) {
		t.Errorf("handed in %v, now %v", before, room)
	}
	if !slices.EqualFunc(lists, outer, bytes.Equal) {
		t.Errorf("handed in %v, now %v", outer, lists)
	}
}

func TestSameAnswerAgain(t *testing.T) {
	b := upTo(31)
	first, over := sums.Of(b), sums.Over(api.Addr{1}, api.Addr{2}, 17, b)
	sums.Of(same(9, 255))
	if sums.Of(b) != first || sums.Over(api.Addr{1}, api.Addr{2}, 17, b) != over {
		t.Error("another answer the second time")
	}
}

func upTo(n int) []byte {
	b := make([]byte, n)
	for i := range b {
		b[i] = byte(i + 1)
	}
	return b
}
