package clocks_test

import (
	"math/big"
	"math/rand"
	"testing"

	"sojourner/api"
	"sojourner/clocks"
)

const (
	never = api.Forever
	top   = 1<<64 - 1
)

// edges are the numbers at which a time may go wrong.
var edges = []uint64{
	0, 1, 2, 999, 1000, 1<<31 - 1, 1 << 31, 1<<32 - 1, 1 << 32,
	1<<62 - 2, 1<<62 - 1, 1 << 62, 1<<62 + 1,
	never - 2, never - 1, never, never + 1, never + 2,
	top - never, top - 1, top,
}

// plain is the sum by the words of the chapter, in numbers that have no end.
func plain(a, b uint64) uint64 {
	most := new(big.Int).SetUint64(never)
	sum := new(big.Int).Add(new(big.Int).SetUint64(a), new(big.Int).SetUint64(b))
	if sum.Cmp(most) > 0 {
		return never
	}
	return sum.Uint64()
}

// spread is a number of any width, so that small ones and great ones both come.
func spread(r *rand.Rand) uint64 { return r.Uint64() >> r.Intn(64) }

// stand tells a fault, if the clock does not stand at that time.
func stand(t *testing.T, c *clocks.Clock, want uint64) {
	t.Helper()
	if n := c.Now(); n != want {
		t.Fatalf("the clock stands at %d, not at %d", n, want)
	}
}

// step moves the clock, and tells a fault, if the answer or the time then is another one.
func step(t *testing.T, c *clocks.Clock, ms uint64, want api.Errno, then uint64) {
	t.Helper()
	if e := c.Advance(ms); e != want {
		t.Fatalf("Advance(%d) = %d, not %d", ms, e, want)
	}
	stand(t, c, then)
}

func TestChapterExamples(t *testing.T) {
	for _, c := range []struct{ a, b, want uint64 }{
		{3, 4, 7}, {never, 1, never}, {never - 1, 1, never}, {top, 0, never},
	} {
		if n := clocks.Add(c.a, c.b); n != c.want {
			t.Errorf("Add(%d, %d) = %d, not %d", c.a, c.b, n, c.want)
		}
	}
	if n := clocks.Secs(7); n != 7000 {
		t.Error("Secs(7) =", n)
	}
	if n := clocks.Secs(1<<32 - 1); n != never {
		t.Error("Secs(2^32 - 1) =", n)
	}
	c := clocks.New()
	step(t, c, 5, api.OK, 5)
	step(t, c, never-5, api.ErrArg, 5)
	step(t, c, never-6, api.OK, never-1)
}

// P3.1: just Forever, one less, and one more; numbers above Forever on either side.
func TestAddAtTheEdges(t *testing.T) {
	for _, c := range []struct{ a, b, want uint64 }{
		{0, 0, 0},
		{0, 9, 9},
		{1000, 30000, 31000},
		{1<<32 - 1, 1, 1 << 32},
		{never - 6, 5, never - 1},
		{never - 5, 5, never},
		{never - 4, 5, never},
		{1 << 62, 1<<62 - 2, never - 1},
		{1 << 62, 1<<62 - 1, never},
		{1 << 62, 1 << 62, never},
		{never - 1, 0, never - 1},
		{never, 0, never},
		{never, never, never},
		{never + 1, 0, never},
		{never + 1, never + 1, never},
		{never + 2, never, never},
		{top, 1, never},
		{top, 2, never},
		{top - 6, 9, never},
		{top, never + 1, never},
		{top, top, never},
	} {
		if n := clocks.Add(c.a, c.b); n != c.want {
			t.Errorf("Add(%d, %d) = %d, not %d", c.a, c.b, n, c.want)
		}
		if n := clocks.Add(c.b, c.a); n != c.want {
			t.Errorf("Add(%d, %d) = %d, not %d", c.b, c.a, n, c.want)
		}
	}
}

// P3.1: of any two numbers.
func TestAddIsThePlainSum(t *testing.T) {
	for _, a := range edges {
		for _, b := range edges {
			if n, want := clocks.Add(a, b), plain(a, b); n != want {
				t.Errorf("Add(%d, %d) = %d, not %d", a, b, n, want)
			}
		}
	}
	r := rand.New(rand.NewSource(31))
	for range 20000 {
		a, b := spread(r), spread(r)
		if n, want := clocks.Add(a, b), plain(a, b); n != want {
			t.Fatalf("Add(%d, %d) = %d, not %d", a, b, n, want)
		}
	}
}

// P3.1: seconds.
func TestSecs(t *testing.T) {
	for _, c := range []struct {
		n    uint32
		want uint64
	}{
		{0, 0}, {1, 1000}, {7200, api.TwoHours}, {86400, api.MaxAdvance},
		{4294967, 4294967000}, {4294968, 4294968000},
		{1<<31 - 1, 2147483647000}, {1 << 31, 2147483648000},
		{1<<32 - 3, 4294967293000}, {1<<32 - 2, 4294967294000}, {1<<32 - 1, never},
	} {
		if n := clocks.Secs(c.n); n != c.want {
			t.Errorf("Secs(%d) = %d, not %d", c.n, n, c.want)
		}
	}
}

// P3.2: a clock goes on by what it is told.
func TestClockGoesOn(t *testing.T) {
	c := clocks.New()
	stand(t, c, 0)
	step(t, c, 0, api.OK, 0)
	step(t, c, 1, api.OK, 1)
	step(t, c, api.MaxAdvance, api.OK, 86400001)
	step(t, c, 0, api.OK, 86400001)
	step(t, c, 1<<40, api.OK, 1<<40+86400001)
}

// P3.2: a step to Forever, or beyond, may not be, and leaves the clock as it was.
func TestClockStaysBelowForever(t *testing.T) {
	for _, at := range []uint64{0, 1, 5, 1 << 62, never - 2, never - 1} {
		for _, far := range []uint64{never - at, never - at + 1, never, never + 1, top - at, top - at + 1, top - 1, top} {
			if far < never-at { // top - at + 1 is 0 where at is 0
				continue
			}
			c := clocks.New()
			step(t, c, at, api.OK, at)
			step(t, c, far, api.ErrArg, at)
			step(t, c, far, api.ErrArg, at)
			step(t, c, never-at-1, api.OK, never-1)
			step(t, c, 0, api.OK, never-1)
			step(t, c, 1, api.ErrArg, never-1)
		}
	}
}

// P3.2: a clock that is not there, and one that no call made, take nothing.
func TestNoClock(t *testing.T) {
	var zero clocks.Clock
	for _, c := range []*clocks.Clock{nil, &zero, new(clocks.Clock)} {
		for _, ms := range []uint64{0, 1, 5, never - 1, never, never + 1, top} {
			step(t, c, ms, api.ErrNil, 0)
		}
	}
	if zero != (clocks.Clock{}) {
		t.Error("a clock that no call made was changed")
	}
}

// P3.2: each call of New makes one of its own.
func TestClocksAreApart(t *testing.T) {
	a, b := clocks.New(), clocks.New()
	step(t, a, 7, api.OK, 7)
	stand(t, b, 0)
	step(t, b, 3, api.OK, 3)
	stand(t, a, 7)
	stand(t, clocks.New(), 0)
}

// P3.3: three numbers, in any order, and however they are taken together.
func TestAddOfThree(t *testing.T) {
	for _, a := range edges {
		for _, b := range edges {
			for _, c := range edges {
				want := plain(plain(a, b), c)
				for _, p := range [][3]uint64{{a, b, c}, {a, c, b}, {b, a, c}, {b, c, a}, {c, a, b}, {c, b, a}} {
					left := clocks.Add(clocks.Add(p[0], p[1]), p[2])
					right := clocks.Add(p[0], clocks.Add(p[1], p[2]))
					if left != want || right != want {
						t.Fatalf("of %v: %d and %d, not %d", p, left, right, want)
					}
				}
			}
		}
	}
}

// P3.3: a sum is no less than what it is made of, if that is a time.
func TestAddIsNeverLess(t *testing.T) {
	r := rand.New(rand.NewSource(32))
	for range 20000 {
		a, b := spread(r), spread(r)
		n := clocks.Add(a, b)
		if n > never || a <= never && n < a || b <= never && n < b {
			t.Fatalf("Add(%d, %d) = %d", a, b, n)
		}
	}
}

// P3.3: a clock never goes back, whatever it is told.
func TestClockNeverGoesBack(t *testing.T) {
	r := rand.New(rand.NewSource(33))
	for range 200 {
		c := clocks.New()
		for range 100 {
			was, ms := c.Now(), spread(r)
			e := c.Advance(ms)
			now := c.Now()
			if now < was || now >= never {
				t.Fatalf("from %d by %d: %d", was, ms, now)
			}
			if plain(was, ms) == never {
				if e != api.ErrArg || now != was {
					t.Fatalf("from %d by %d: %d, and %d", was, ms, e, now)
				}
			} else if e != api.OK || now != was+ms {
				t.Fatalf("from %d by %d: %d, and %d", was, ms, e, now)
			}
		}
	}
}
