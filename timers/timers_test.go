package timers_test

import (
	"math/rand"
	"slices"
	"testing"

	"sojourner/api"
	"sojourner/timers"
)

const (
	most = api.MaxTimers
	top  = 1<<64 - 1
)

// edges are the times at which a comparison may go wrong.
var edges = []uint64{0, 1, 2, 1<<31 - 1, 1 << 31, 1<<32 - 1, 1 << 32, api.Forever - 1, api.Forever, 1 << 63, top - 1, top}

// row is a timer with its time.
type row struct {
	kind uint8
	id   uint64
	at   uint64
}

func (r row) key() api.Timer { return api.Timer{Kind: r.kind, ID: r.id} }

// before is the order of the chapter's words, written out.
func before(a, b row) bool {
	if a.at != b.at {
		return a.at < b.at
	}
	if a.kind != b.kind {
		return a.kind < b.kind
	}
	return a.id < b.id
}

// sorted are the rows in the order in which they come ahead.
func sorted(l []row) []row {
	l = slices.Clone(l)
	slices.SortFunc(l, func(a, b row) int {
		switch {
		case before(a, b):
			return -1
		case before(b, a):
			return 1
		}
		return 0
	})
	return l
}

// answer is what Next and Due tell.
type answer struct {
	key api.Timer
	at  uint64
	ok  bool
}

func answered(k api.Timer, at uint64, ok bool) answer { return answer{k, at, ok} }

func yes(r row) answer { return answer{r.key(), r.at, true} }

// arm tells a fault, if Arm answers an error, or the timer has another time then.
func arm(t *testing.T, s *timers.Set, r row) {
	t.Helper()
	if e := s.Arm(r.key(), r.at); e != api.OK {
		t.Fatalf("Arm of %v = %d", r, e)
	}
	at(t, s, r)
}

// armed makes a set of these.
func armed(t *testing.T, l ...row) *timers.Set {
	t.Helper()
	s := timers.New()
	for i, r := range l {
		arm(t, s, r)
		count(t, s, i+1)
	}
	return s
}

func at(t *testing.T, s *timers.Set, r row) {
	t.Helper()
	if n, ok := s.At(r.key()); n != r.at || !ok {
		t.Fatalf("At of %v = %d, %v", r, n, ok)
	}
}

func unarmed(t *testing.T, s *timers.Set, k api.Timer) {
	t.Helper()
	if n, ok := s.At(k); n != 0 || ok {
		t.Fatalf("At of %v, which is not armed, = %d, %v", k, n, ok)
	}
}

func cancel(t *testing.T, s *timers.Set, k api.Timer, want bool) {
	t.Helper()
	if ok := s.Cancel(k); ok != want {
		t.Fatalf("Cancel of %v = %v", k, ok)
	}
	unarmed(t, s, k)
}

func count(t *testing.T, s *timers.Set, want int) {
	t.Helper()
	if n := s.Len(); n != want {
		t.Fatalf("%d are armed, not %d", n, want)
	}
}

func next(t *testing.T, s *timers.Set, want answer) {
	t.Helper()
	if a := answered(s.Next()); a != want {
		t.Fatalf("Next = %v, not %v", a, want)
	}
}

func due(t *testing.T, s *timers.Set, now uint64, want answer) {
	t.Helper()
	if a := answered(s.Due(now)); a != want {
		t.Fatalf("Due(%d) = %v, not %v", now, a, want)
	}
	if want.ok {
		unarmed(t, s, want.key)
	}
}

// drain tells a fault, if not just these are armed, or they come in another order.
func drain(t *testing.T, s *timers.Set, l []row) {
	t.Helper()
	l = sorted(l)
	for i, r := range l {
		count(t, s, len(l)-i)
		next(t, s, yes(r))
		if r.at > 0 {
			due(t, s, r.at-1, answer{})
		}
		due(t, s, r.at, yes(r))
	}
	empty(t, s)
}

func empty(t *testing.T, s *timers.Set) {
	t.Helper()
	count(t, s, 0)
	next(t, s, answer{})
	for _, now := range edges {
		due(t, s, now, answer{})
	}
}

// shuffled are n timers of one kind, in any order, by threes of the same time.
func shuffled(r *rand.Rand, n int) []row {
	l := make([]row, n)
	for i, id := range r.Perm(n) {
		l[i] = row{1, uint64(id), uint64(id / 3)}
	}
	return l
}

func TestChapterExamples(t *testing.T) {
	s := armed(t, row{1, 7, 50}, row{2, 1, 40}, row{1, 3, 50})
	next(t, s, yes(row{2, 1, 40}))
	due(t, s, 39, answer{})
	due(t, s, 45, yes(row{2, 1, 40}))
	next(t, s, yes(row{1, 3, 50}))
	arm(t, s, row{1, 7, 10})
	due(t, s, 100, yes(row{1, 7, 10}))
	cancel(t, s, api.Timer{Kind: 1, ID: 3}, true)
	count(t, s, 0)
}

// P5.1: in a new set none is armed, and each is one of its own.
func TestNew(t *testing.T) {
	a, b := timers.New(), timers.New()
	empty(t, a)
	unarmed(t, a, api.Timer{})
	cancel(t, a, api.Timer{}, false)
	arm(t, a, row{1, 1, 5})
	empty(t, b)
	unarmed(t, b, api.Timer{Kind: 1, ID: 1})
	arm(t, b, row{1, 1, 9})
	at(t, a, row{1, 1, 5})
	cancel(t, b, api.Timer{Kind: 1, ID: 1}, true)
	drain(t, a, []row{{1, 1, 5}})
	empty(t, b)
	empty(t, timers.New())
}

// P5.1: any key may be armed, with any time; both halves of a key count.
func TestArmAnyKey(t *testing.T) {
	var l []row
	for _, kind := range []uint8{0, 1, 127, 128, 255} {
		for i, id := range edges {
			l = append(l, row{kind, id, edges[len(edges)-1-i]})
		}
	}
	s := armed(t, l...)
	for _, r := range l {
		at(t, s, r)
	}
	drain(t, s, l)
}

// P5.1: just as many as may be armed, one less and one more.
func TestArmAtTheLimit(t *testing.T) {
	l := shuffled(rand.New(rand.NewSource(51)), most)
	s := armed(t, l[:most-1]...)
	arm(t, s, l[most-1])
	for _, k := range []api.Timer{{}, {Kind: 1, ID: most}, {Kind: 2}, {Kind: 255, ID: top}} {
		for _, now := range edges {
			if e := s.Arm(k, now); e != api.ErrLimit {
				t.Fatalf("Arm of %v, one too many, = %d", k, e)
			}
			unarmed(t, s, k)
			count(t, s, most)
		}
	}
	drain(t, s, l)
}

// P5.1: at the limit one that is armed may be armed again, and another one in the place of one that is no more.
func TestArmAgainAtTheLimit(t *testing.T) {
	l := shuffled(rand.New(rand.NewSource(52)), most)
	s := armed(t, l...)
	for i := range l {
		l[i].at = uint64(i) * 7 % 50
		arm(t, s, l[i])
		count(t, s, most)
	}
	cancel(t, s, l[9].key(), true)
	count(t, s, most-1)
	l[9] = row{3, 3, 3}
	arm(t, s, l[9])
	count(t, s, most)
	l = sorted(l)
	due(t, s, top, yes(l[0]))
	l[0] = row{3, 4, top}
	arm(t, s, l[0])
	if e := s.Arm(api.Timer{Kind: 3, ID: 5}, 0); e != api.ErrLimit {
		t.Error("Arm of one too many =", e)
	}
	drain(t, s, l)
}

// P5.1: armed again, earlier, later and at the same time, wherever it lies.
func TestArmAgain(t *testing.T) {
	was := []row{{1, 0, 10}, {1, 1, 20}, {1, 2, 30}, {1, 3, 40}, {1, 4, 50}, {1, 5, 60}, {1, 6, 70}}
	for i := range was {
		for _, then := range append([]uint64{5, 10, 15, 25, 35, 40, 45, 55, 65, 70, 75}, edges...) {
			l := slices.Clone(was)
			s := armed(t, l...)
			l[i].at = then
			for range 2 {
				arm(t, s, l[i])
				count(t, s, len(l))
				next(t, s, yes(sorted(l)[0]))
			}
			drain(t, s, l)
		}
	}
}

// P5.2: cancelling the first, one in the middle, the last, and each twice.
func TestCancel(t *testing.T) {
	for n := 1; n < 20; n++ {
		for i := range n {
			l := shuffled(rand.New(rand.NewSource(int64(n))), n)
			s := armed(t, l...)
			l = sorted(l)
			cancel(t, s, l[i].key(), true)
			count(t, s, n-1)
			cancel(t, s, l[i].key(), false)
			count(t, s, n-1)
			drain(t, s, slices.Delete(l, i, i+1))
		}
	}
}

// P5.2: one that is not armed: never, or no more.
func TestCancelOfNone(t *testing.T) {
	l := []row{{1, 1, 5}, {1, 2, 0}, {2, 2, top}}
	s := armed(t, l...)
	for _, k := range []api.Timer{{}, {Kind: 1}, {ID: 1}, {Kind: 2, ID: 1}, {Kind: 1, ID: 1 << 32}, {Kind: 3, ID: 3}} {
		unarmed(t, s, k)
		cancel(t, s, k, false)
		count(t, s, len(l))
	}
	due(t, s, 0, yes(l[1]))
	cancel(t, s, l[1].key(), false)
	arm(t, s, row{1, 2, 9})
	cancel(t, s, l[1].key(), true)
	arm(t, s, l[1])
	drain(t, s, l)
}

// P5.2: a time of 0 is a time.
func TestAtNought(t *testing.T) {
	s := armed(t, row{0, 0, 0})
	at(t, s, row{0, 0, 0})
	next(t, s, answer{ok: true})
	due(t, s, 0, answer{ok: true})
	empty(t, s)
}

// P5.3: timers of the same time are told apart by their kinds first, then by their ids.
func TestSameTime(t *testing.T) {
	for _, now := range edges {
		drain(t, armed(t, row{2, 1, now}, row{1, 2, now}), []row{{1, 2, now}, {2, 1, now}})
		drain(t, armed(t, row{1, 9, now}, row{1, 3, now}), []row{{1, 3, now}, {1, 9, now}})
		drain(t, armed(t, row{1, top, now}, row{1, 1 << 63, now}, row{1, 1<<63 - 1, now}, row{255, 0, now}, row{128, 0, now}, row{127, 0, now}, row{0, top, now}),
			[]row{{0, top, now}, {1, 1<<63 - 1, now}, {1, 1 << 63, now}, {1, top, now}, {127, 0, now}, {128, 0, now}, {255, 0, now}})
	}
	s := armed(t, row{1, 9, 5}, row{0, 9, 6}, row{1, 3, 5}, row{0, 1, 7})
	for _, r := range []row{{1, 3, 5}, {1, 9, 5}, {0, 9, 6}, {0, 1, 7}} {
		due(t, s, 7, yes(r))
	}
	empty(t, s)
}

// P5.3: just ahead of a time, just at it and behind it.
func TestDue(t *testing.T) {
	for _, then := range edges {
		for _, now := range edges {
			r := row{4, 5, then}
			s := armed(t, r)
			if then > now {
				due(t, s, now, answer{})
				at(t, s, r)
				drain(t, s, []row{r})
				continue
			}
			due(t, s, now, yes(r))
			empty(t, s)
		}
	}
}

// P5.3: Due takes one alone, though others are due too.
func TestDueTakesOne(t *testing.T) {
	s := armed(t, row{1, 1, 10}, row{1, 2, 10}, row{1, 3, 20})
	due(t, s, 20, yes(row{1, 1, 10}))
	count(t, s, 2)
	due(t, s, 10, yes(row{1, 2, 10}))
	due(t, s, 10, answer{})
	count(t, s, 1)
	due(t, s, 20, yes(row{1, 3, 20}))
	empty(t, s)
}

// P5.3: asking takes none.
func TestAskingTakesNone(t *testing.T) {
	l := []row{{1, 1, 10}, {1, 2, 10}, {1, 3, 20}}
	s := armed(t, l...)
	for range 9 {
		next(t, s, yes(l[0]))
		count(t, s, 3)
		at(t, s, l[2])
		due(t, s, 9, answer{})
	}
	drain(t, s, l)
}

// P5.1 to P5.3: a set that is not there, and one that no call made, take nothing.
func TestNoSet(t *testing.T) {
	var zero timers.Set
	for _, s := range []*timers.Set{nil, &zero, new(timers.Set)} {
		for _, k := range []api.Timer{{}, {Kind: 1, ID: 1}, {Kind: 255, ID: top}} {
			for _, then := range edges {
				if e := s.Arm(k, then); e != api.ErrNil {
					t.Fatal("Arm =", e)
				}
				unarmed(t, s, k)
				cancel(t, s, k, false)
			}
			empty(t, s)
		}
	}
	if zero != (timers.Set{}) {
		t.Error("a set that no call made was changed")
	}
}

// R1: a copy of a set does not break it, whichever of them is called.
func TestCopyDoesNotBreak(t *testing.T) {
	r := rand.New(rand.NewSource(53))
	a := timers.New()
	b := *a
	for range 5000 {
		s := []*timers.Set{a, &b}[r.Intn(2)]
		k := api.Timer{ID: uint64(r.Intn(40))}
		switch r.Intn(3) {
		case 0:
			s.Cancel(k)
		case 1:
			s.Due(uint64(r.Intn(40)))
		default:
			arm(t, s, row{k.Kind, k.ID, uint64(r.Intn(60))})
		}
	}
}

// plain is a set as a list that is gone through each time.
type plain []row

func (p plain) find(k api.Timer) int {
	return slices.IndexFunc(p, func(r row) bool { return r.key() == k })
}

func (p *plain) arm(r row) api.Errno {
	if i := p.find(r.key()); i >= 0 {
		(*p)[i] = r
		return api.OK
	}
	if len(*p) == most {
		return api.ErrLimit
	}
	*p = append(*p, r)
	return api.OK
}

func (p *plain) cancel(k api.Timer) bool {
	i := p.find(k)
	if i >= 0 {
		*p = slices.Delete(*p, i, i+1)
	}
	return i >= 0
}

func (p plain) next() answer {
	if len(p) == 0 {
		return answer{}
	}
	first := p[0]
	for _, r := range p {
		if before(r, first) {
			first = r
		}
	}
	return yes(first)
}

func (p *plain) due(now uint64) answer {
	a := p.next()
	if !a.ok || a.at > now {
		return answer{}
	}
	p.cancel(a.key)
	return a
}

// P5.4: many timers, armed, cancelled and taken in any order.
func TestAgainstAPlainList(t *testing.T) {
	r := rand.New(rand.NewSource(54))
	for _, c := range []struct {
		ids, times, arms int // how many ids a kind has, how many times there are, how many of ten steps arm
	}{{2, 3, 4}, {10, 5, 5}, {30, 1000, 6}, {100, 20, 7}, {200, 1 << 40, 9}} {
		s, p := timers.New(), plain{}
		pick := func() row { return row{uint8(r.Intn(3)), uint64(r.Intn(c.ids)), uint64(r.Intn(c.times))} }
		for range 6000 {
			x := pick()
			switch n := r.Intn(10); {
			case n < c.arms:
				if e, want := s.Arm(x.key(), x.at), p.arm(x); e != want {
					t.Fatalf("Arm of %v = %d, not %d", x, e, want)
				}
			case n%2 == 0:
				cancel(t, s, x.key(), p.cancel(x.key()))
			default:
				due(t, s, x.at, p.due(x.at))
			}
			next(t, s, p.next())
			count(t, s, len(p))
			if i := p.find(x.key()); i < 0 {
				unarmed(t, s, x.key())
			} else {
				at(t, s, p[i])
			}
		}
		for _, x := range p {
			at(t, s, x)
		}
		drain(t, s, p)
	}
}

// P5.4: whatever is armed, again and again, has one time, and comes once.
func TestOneTime(t *testing.T) {
	r := rand.New(rand.NewSource(55))
	s := timers.New()
	last := make([]row, 5)
	for i := range 2000 {
		x := row{7, uint64(i % 5), r.Uint64() >> r.Intn(64)}
		last[i%5] = x
		arm(t, s, x)
		count(t, s, min(i+1, 5))
	}
	drain(t, s, last)
}

// P5.4: taken one by one they come in order, though others are armed meanwhile.
func TestTakenInOrder(t *testing.T) {
	r := rand.New(rand.NewSource(56))
	s := armed(t, shuffled(r, most)...)
	was := row{}
	for i := range 4000 {
		k, then, ok := s.Due(top)
		x := row{k.Kind, k.ID, then}
		if !ok || i > 0 && !before(was, x) {
			t.Fatalf("step %d: %v behind %v", i, x, was)
		}
		was = x
		arm(t, s, row{uint8(r.Intn(256)), uint64(most + i), then + 1 + uint64(r.Intn(20))})
		count(t, s, most)
	}
}
