package draws_test

import (
	"math/big"
	"math/rand"
	"slices"
	"testing"

	"sojourner/api"
	"sojourner/draws"
)

const (
	most = api.MaxWords
	top  = 1<<32 - 1
)

// edges are the numbers at which a product may go wrong.
var edges = []uint32{0, 1, 2, 3, 10, 255, 256, 257, 1 << 16, 1<<31 - 1, 1 << 31, 1<<31 + 1, top - 1, top}

// counted are n words, one more each.
func counted(from, n int) []uint32 {
	l := make([]uint32, n)
	for i := range l {
		l[i] = uint32(from + i)
	}
	return l
}

// feed hands words in, and tells a fault, if another count of them is taken, or waits then.
func feed(t *testing.T, w *draws.Words, l []uint32, taken, then int) {
	t.Helper()
	if n := w.Feed(l...); n != taken {
		t.Fatalf("Feed of %d words = %d, not %d", len(l), n, taken)
	}
	wait(t, w, then)
}

// wait tells a fault, if not so many words wait.
func wait(t *testing.T, w *draws.Words, want int) {
	t.Helper()
	if n := w.Len(); n != want {
		t.Fatalf("%d words wait, not %d", n, want)
	}
}

// take tells a fault, if not these words come next.
func take(t *testing.T, w *draws.Words, want ...uint32) {
	t.Helper()
	for i, x := range want {
		was := w.Len()
		if n := w.Next(); n != x {
			t.Fatalf("word %d is %d, not %d", i, n, x)
		}
		wait(t, w, max(was-1, 0))
	}
}

// plain is the product by the words of the chapter, in numbers that have no end.
func plain(word, n uint32) uint32 {
	p := new(big.Int).Mul(big.NewInt(int64(word)), big.NewInt(int64(n)))
	return uint32(p.Div(p, big.NewInt(1<<32)).Uint64())
}

// below is what Below answers of the word.
func below(t *testing.T, word, n uint32) uint32 {
	t.Helper()
	w := draws.New()
	feed(t, w, []uint32{word}, 1, 1)
	x := w.Below(n)
	wait(t, w, 0)
	return x
}

func TestChapterExamples(t *testing.T) {
	w := draws.New()
	if n := w.Feed(5, 2147483648, 4294967295); n != 3 {
		t.Error("Feed =", n)
	}
	got := []uint32{uint32(w.Len()), w.Next(), w.Below(10), w.Below(10), w.Next(), w.Below(10), uint32(w.Len())}
	if want := []uint32{3, 5, 5, 9, 0, 0, 0}; !slices.Equal(got, want) {
		t.Error(got, "not", want)
	}
}

// P4.1: a new one has no words, and each is one of its own.
func TestNew(t *testing.T) {
	a := draws.New()
	wait(t, a, 0)
	take(t, a, 0, 0)
	b := draws.New()
	feed(t, a, []uint32{1, 2, 3}, 3, 3)
	wait(t, b, 0)
	feed(t, b, []uint32{9}, 1, 1)
	take(t, a, 1)
	take(t, b, 9, 0)
	take(t, a, 2, 3, 0)
	wait(t, draws.New(), 0)
}

// P4.1: words wait by value, so that a copy has its own.
func TestCopyIsApart(t *testing.T) {
	a := draws.New()
	feed(t, a, []uint32{1, 2}, 2, 2)
	b := *a
	feed(t, a, []uint32{3}, 1, 3)
	feed(t, &b, []uint32{4}, 1, 3)
	take(t, a, 1, 2, 3, 0)
	take(t, &b, 1, 2, 4, 0)
}

// P4.1: no words are fed.
func TestFeedOfNone(t *testing.T) {
	w := draws.New()
	for _, l := range [][]uint32{nil, {}, counted(1, 9)[:0]} {
		feed(t, w, l, 0, 0)
	}
	if n := w.Feed(); n != 0 {
		t.Error("Feed() =", n)
	}
	take(t, w, 0)
	feed(t, w, []uint32{7}, 1, 1)
	feed(t, w, nil, 0, 1)
	take(t, w, 7, 0)
}

// P4.1: just as many as may wait, one less and one more, at once.
func TestFeedAtTheLimit(t *testing.T) {
	for n, left := range map[int]int{most - 1: 1, most: 0, most + 1: 0, most + 2: 0, 3 * most: 0} {
		w := draws.New()
		feed(t, w, counted(1, n), most-left, most-left)
		feed(t, w, []uint32{1001, 1002}, left, most)
		feed(t, w, []uint32{1003}, 0, most)
		feed(t, w, nil, 0, most)
		take(t, w, counted(1, most-left)...)
		take(t, w, counted(1001, left)...)
		take(t, w, 0)
	}
}

// P4.1: the same in two parts, cut anywhere, wherever the words begin to wait.
func TestFeedInParts(t *testing.T) {
	for _, from := range []int{0, 1, most / 2, most - 1, most, most + 1} {
		for cut := 0; cut <= most; cut++ {
			for more := -1; more <= 1; more++ {
				w := draws.New()
				for range from {
					feed(t, w, []uint32{top}, 1, 1)
					take(t, w, top)
				}
				second := max(most+more-cut, 0)
				taken := min(second, most-cut)
				feed(t, w, counted(1, cut), cut, cut)
				feed(t, w, counted(1+cut, second), taken, cut+taken)
				take(t, w, counted(1, cut+taken)...)
				take(t, w, 0)
			}
		}
	}
}

// P4.1: one word at a time, till no more are taken; then there is room for just those that went.
func TestFeedWordByWord(t *testing.T) {
	w := draws.New()
	for i := range most {
		feed(t, w, []uint32{uint32(i)}, 1, i+1)
	}
	feed(t, w, []uint32{8000}, 0, most)
	take(t, w, 0, 1, 2)
	feed(t, w, []uint32{9000, 9001, 9002, 9003}, 3, most)
	take(t, w, counted(3, most-3)...)
	take(t, w, 9000, 9001, 9002, 0)
}

// P4.1: the list stays as it was, and is not kept.
func TestListIsItsOwners(t *testing.T) {
	w := draws.New()
	l := counted(1, most+4)
	feed(t, w, l, most, most)
	if !slices.Equal(l, counted(1, most+4)) {
		t.Error("Feed changed the list")
	}
	for i := range l {
		l[i] = 77
	}
	take(t, w, counted(1, most)...)
	if slices.ContainsFunc(l, func(x uint32) bool { return x != 77 }) {
		t.Error("Next changed the list")
	}

	short := make([]uint32, 2, 9)
	feed(t, w, short[:2], 2, 2)
	feed(t, w, []uint32{5, 6}, 2, 4)
	if !slices.Equal(short[:9], make([]uint32, 9)) {
		t.Error("Feed wrote behind the list")
	}
	short[0], short[1] = 8, 9
	take(t, w, 0, 0, 5, 6, 0)
}

// P4.2: of none that wait, and then of one again.
func TestNoneWaits(t *testing.T) {
	w := draws.New()
	for range 2*most + 3 {
		take(t, w, 0)
		for _, n := range edges {
			if x := w.Below(n); x != 0 {
				t.Fatalf("Below(%d) = %d, but no word waits", n, x)
			}
			wait(t, w, 0)
		}
	}
	feed(t, w, []uint32{top, 4, 5}, 3, 3)
	take(t, w, top, 4, 5, 0)
}

// P4.2: the words at the ends come as they are.
func TestNextAtTheEnds(t *testing.T) {
	w := draws.New()
	feed(t, w, []uint32{0, top, 0, 1 << 31, top}, 5, 5)
	take(t, w, 0, top, 0, 1<<31, top, 0)
}

// P4.2: the product, by 2^32.
func TestBelow(t *testing.T) {
	for _, c := range []struct{ word, n, want uint32 }{
		{0, 0, 0}, {0, 1, 0}, {0, 10, 0}, {0, top, 0},
		{1, 0, 0}, {1, 1, 0}, {1, 10, 0}, {1, top, 0}, {2, top, 1}, {2, 1 << 31, 1}, {2, 1<<31 - 1, 0},
		{1 << 31, 0, 0}, {1 << 31, 1, 0}, {1 << 31, 2, 1}, {1<<31 - 1, 2, 0}, {1 << 31, top, 1<<31 - 1},
		{1431655765, 3, 0}, {1431655766, 3, 1}, {2863311530, 3, 1}, {2863311531, 3, 2},
		{top, 0, 0}, {top, 1, 0}, {top, 2, 1}, {top, 10, 9}, {top, 1000, 999}, {top, top, top - 1},
	} {
		if x := below(t, c.word, c.n); x != c.want {
			t.Errorf("Below(%d) of %d = %d, not %d", c.n, c.word, x, c.want)
		}
	}
}

// P4.2: of any word and number.
func TestBelowIsThePlainProduct(t *testing.T) {
	for _, word := range edges {
		for _, n := range edges {
			if x, want := below(t, word, n), plain(word, n); x != want {
				t.Errorf("Below(%d) of %d = %d, not %d", n, word, x, want)
			}
		}
	}
	r := rand.New(rand.NewSource(41))
	for range 5000 {
		word, n := r.Uint32()>>r.Intn(32), r.Uint32()>>r.Intn(32)
		if x, want := below(t, word, n), plain(word, n); x != want {
			t.Fatalf("Below(%d) of %d = %d, not %d", n, word, x, want)
		}
	}
}

// P4.2: Below takes just one word, of 0 too.
func TestBelowTakesAWord(t *testing.T) {
	for _, n := range edges {
		w := draws.New()
		feed(t, w, []uint32{top, 21, 22}, 3, 3)
		if x, want := w.Below(n), plain(top, n); x != want {
			t.Errorf("Below(%d) = %d, not %d", n, x, want)
		}
		wait(t, w, 2)
		take(t, w, 21, 22, 0)
	}
}

// P4.3: asking how many wait takes none of them.
func TestLenTakesNone(t *testing.T) {
	w := draws.New()
	feed(t, w, counted(1, 3), 3, 3)
	for range 9 {
		wait(t, w, 3)
	}
	take(t, w, 1, 2, 3, 0)
}

// P4.1 to P4.3: words that are not there, and ones that no call made, take nothing.
func TestNoWords(t *testing.T) {
	var zero draws.Words
	for _, w := range []*draws.Words{nil, &zero, new(draws.Words)} {
		for _, l := range [][]uint32{nil, {}, {5}, {0, top}, counted(1, most), counted(1, most+1)} {
			feed(t, w, l, 0, 0)
			take(t, w, 0)
			for _, n := range edges {
				if x := w.Below(n); x != 0 {
					t.Errorf("Below(%d) = %d", n, x)
				}
			}
		}
	}
	if zero != (draws.Words{}) {
		t.Error("words that no call made were changed")
	}
}

// P4.4: words come in the order in which they were taken, however often they go round.
func TestWordsGoRound(t *testing.T) {
	r := rand.New(rand.NewSource(42))
	for _, bound := range []int{3, 40, most, 2 * most} {
		w := draws.New()
		var waits []uint32
		for range 600 {
			l := make([]uint32, r.Intn(bound+1))
			for i := range l {
				l[i] = r.Uint32()
			}
			taken := min(len(l), most-len(waits))
			waits = append(waits, l[:taken]...)
			feed(t, w, l, taken, len(waits))
			for range r.Intn(bound + 1) {
				if len(waits) == 0 {
					take(t, w, 0)
					break
				}
				n := r.Uint32()
				if n%2 == 0 {
					take(t, w, waits[0])
				} else if x, want := w.Below(n), plain(waits[0], n); x != want {
					t.Fatalf("Below(%d) of %d = %d, not %d", n, waits[0], x, want)
				}
				waits = waits[1:]
				wait(t, w, len(waits))
			}
		}
		take(t, w, waits...)
		take(t, w, 0)
	}
}

// P4.4: Below is less than its number, and a greater word gives no less.
func TestBelowIsLessAndInOrder(t *testing.T) {
	r := rand.New(rand.NewSource(43))
	words := append(counted(0, 50), edges...)
	for range 400 {
		words = append(words, r.Uint32()>>r.Intn(32))
	}
	slices.Sort(words)
	for _, n := range append(counted(0, 20), edges...) {
		last := uint32(0)
		for _, word := range words {
			x := below(t, word, n)
			if n == 0 && x != 0 || n != 0 && x >= n {
				t.Fatalf("Below(%d) of %d = %d", n, word, x)
			}
			if x < last {
				t.Fatalf("Below(%d) of %d = %d, but a lesser word gave %d", n, word, x, last)
			}
			last = x
		}
	}
}
