package options_test

import (
	"bytes"
	"math"
	"math/rand"
	"regexp"
	"slices"
	"strings"
	"testing"

	"sojourner/api"
	"sojourner/options"
)

// namePattern is a name by the chapter's words, but for how long it is.
var namePattern = regexp.MustCompile(`^[a-z0-9-]{1,63}(\.[a-z0-9-]{1,63})*$`)

func isName(s string) bool {
	return len(s) <= 253 && namePattern.MatchString(s) && !strings.Contains(s, "\n")
}

// nameBytes is a name's bytes: its dots, and one ahead of it, become counts of what follows.
func nameBytes(name string) []byte {
	b := []byte("." + name + "\x00")
	count := byte(0)
	for i := len(b) - 2; i >= 0; i-- {
		if b[i] == '.' {
			b[i], count = count, 0
		} else {
			count++
		}
	}
	return b
}

// long is a name of n bytes, its parts as long as may be.
func long(n int) string {
	b := bytes.Repeat([]byte{'x'}, n)
	for i := 63; i < n-1; i += 64 {
		b[i] = '.'
	}
	return string(b)
}

func part(n int) string { return strings.Repeat("p", n) }

var soundNames = []string{"a", "0", "-", "a.b", "a-b.c0", "--", "0.0.0.0", part(62), part(63), part(63) + ".a", "a." + part(63), long(64 + 61), long(252), long(253), strings.Repeat("a.", 126) + "z"}

var wrongNames = []string{"", ".", "..", "a.", ".a", "a..b", "A", "a.B", "aZ", "a_b", "a b", "a/b", "a:b", "a@", "a`", "a{", "a\x00", "\x00", "é", "a.\xff", part(64), part(64) + ".a", "a." + part(64), long(253) + "x", long(254), long(255), strings.Repeat("a.", 127) + "z", part(1000), strings.Repeat("a.", 40000) + "a"}

func TestNamesHere(t *testing.T) {
	for _, s := range soundNames {
		if !isName(s) {
			t.Errorf("%q is to be a name", s)
		}
	}
	for _, s := range wrongNames {
		if isName(s) {
			t.Errorf("%q is to be none", s)
		}
	}
}

// domainsData is Data with six bytes ahead.
func domainsData(life uint32, l ...string) []byte {
	b := []byte{0, 0, byte(life >> 24), byte(life >> 16), byte(life >> 8), byte(life)}
	for _, s := range l {
		b = append(b, nameBytes(s)...)
	}
	return b
}

// wantDomains reads Data, which has to tell just these names.
func wantDomains(t *testing.T, data []byte, life uint32, want ...string) {
	t.Helper()
	was := slices.Clone(data)
	got, l, ok := options.DomainsOf(api.Option{Kind: 31, Data: data})
	if !ok || got != life || !slices.Equal(l, want) || cap(l) != len(l) {
		t.Errorf("DomainsOf(%v) = %d, %q (room of %d), %v", data, got, l, cap(l)-len(l), ok)
	}
	if !bytes.Equal(data, was) {
		t.Errorf("made %v out of %v", data, was)
	}
}

func wantNoDomains(t *testing.T, data []byte) {
	t.Helper()
	wantNothing(t, api.Option{Kind: 31, Data: data})
}

// P10.2: Domains takes just those that are names.

func TestDomainsOfEachName(t *testing.T) {
	for _, s := range soundNames {
		wantOption(t, options.Domains(0x01020304, []string{s}), 31, domainsData(0x01020304, s)...)
	}
	for _, s := range wrongNames {
		wantOption(t, options.Domains(7, []string{s}), 31, domainsData(7)...)
		wantOption(t, options.Domains(7, []string{"a", s, "b.c"}), 31, domainsData(7, "a", "b.c")...)
	}
}

func TestDomainsOfEachByte(t *testing.T) {
	for x := range 256 {
		for _, s := range []string{string([]byte{byte(x)}), string([]byte{'a', byte(x)}), string([]byte{byte(x), 'a'}), string([]byte{'a', '.', byte(x), 'b'})} {
			want := domainsData(9)
			if isName(s) {
				want = domainsData(9, s)
			}
			wantOption(t, options.Domains(9, []string{s}), 31, want...)
		}
	}
}

func TestDomainsOfManyNames(t *testing.T) {
	wantOption(t, options.Domains(math.MaxUint32, nil), 31, 0, 0, 255, 255, 255, 255)
	wantOption(t, options.Domains(0, []string{}), 31, 0, 0, 0, 0, 0, 0)
	wantOption(t, options.Domains(1, []string{"a", "a", "b"}), 31, 0, 0, 0, 0, 0, 1, 1, 'a', 0, 1, 'a', 0, 1, 'b', 0)
	l := append(slices.Clone(soundNames), wrongNames...)
	was := slices.Clone(l)
	wantOption(t, options.Domains(1, l), 31, domainsData(1, soundNames...)...)
	if !slices.Equal(l, was) {
		t.Error("what was handed in was changed")
	}
}

// P10.4: DomainsOf.

func TestDomainsOfSound(t *testing.T) {
	for _, s := range soundNames {
		for noughts := range 20 {
			data := append(domainsData(0xfffefdfc, s), make([]byte, noughts)...)
			wantDomains(t, data, 0xfffefdfc, s)
			wantDomains(t, slices.Concat(data[:6], nameBytes("a.b"), data[6:]), 0xfffefdfc, "a.b", s)
		}
	}
	wantDomains(t, domainsData(0, soundNames...), 0, soundNames...)
	wantDomains(t, domainsData(0, "a", "a"), 0, "a", "a")
	odd := domainsData(60, "a")
	odd[0], odd[1] = 255, 1
	wantDomains(t, odd, 60, "a")
}

func TestDomainsOfNoNames(t *testing.T) {
	for n := range 40 {
		wantNoDomains(t, make([]byte, n))
	}
	wantNoDomains(t, domainsData(math.MaxUint32))
	wantNoDomains(t, append(domainsData(1), make([]byte, 300)...))
}

func TestDomainsOfCutShort(t *testing.T) {
	whole := domainsData(60, "a.bc", long(253), "d")
	ends := map[int]int{6 + 6: 1, 6 + 6 + 255: 2, len(whole): 3}
	for n := range len(whole) + 1 {
		if ends[n] > 0 {
			wantDomains(t, whole[:n], 60, []string{"a.bc", long(253), "d"}[:ends[n]]...)
		} else {
			wantNoDomains(t, whole[:n])
		}
	}
}

func TestDomainsOfWrongNames(t *testing.T) {
	for _, b := range [][]byte{
		{1, 'A', 0}, {1, '.', 0}, {1, 0, 0}, {2, 'a', 0, 0}, {3, 'a', '.', 'b', 0}, {1, ' ', 0}, {1, 255, 0}, {2, 0xc3, 0xa9, 0},
		{1, 'a'}, {1}, {2, 'a'}, {2, 'a', 0}, {1, 'a', 1}, {1, 'a', 1, 'b'}, {63, 'a', 0}, {192, 0}, {255}, {64},
		{1, 'a', 192, 6}, {192, 12, 0},
		append(append([]byte{64}, part(64)...), 0),
		append(append([]byte{1, 'a', 64}, part(64)...), 0),
		append(append([]byte{255}, part(255)...), 0),
		nameBytes(long(253) + "x"), nameBytes(long(254)), nameBytes(long(255)), nameBytes(strings.Repeat("a.", 127) + "z"),
		bytes.Repeat([]byte{1, 'a'}, 5000),
	} {
		wantNoDomains(t, append(domainsData(5), b...))
		wantNoDomains(t, append(domainsData(5, "ok"), b...))
	}
}

func TestDomainsOfOtherBytesBehind(t *testing.T) {
	for noughts := 1; noughts < 12; noughts++ {
		data := append(domainsData(5, "ok"), make([]byte, noughts)...)
		wantNoDomains(t, append(slices.Clone(data), 1))
		wantNoDomains(t, append(slices.Clone(data), nameBytes("a")...))
		for i := range noughts - 1 {
			wrong := slices.Clone(data)
			wrong[len(data)-noughts+1+i] = 255
			wantNoDomains(t, wrong)
		}
	}
	// A nought ahead of the names leaves none.
	wantNoDomains(t, slices.Concat(domainsData(5), []byte{0}, nameBytes("a")))
}

func TestDomainsOfEachByteOfAName(t *testing.T) {
	for x := range 256 {
		data := append(domainsData(5), 3, 'a', byte(x), 'b', 0)
		if s := string(data[7:10]); isName(s) && x != '.' {
			wantDomains(t, data, 5, s)
		} else {
			wantNoDomains(t, data)
		}
	}
}

func TestDomainsShareNothing(t *testing.T) {
	data := domainsData(5, "ab", "cd")
	_, l, _ := options.DomainsOf(api.Option{Kind: 31, Data: data})
	clear(data)
	if !slices.Equal(l, []string{"ab", "cd"}) {
		t.Error(l)
	}
}

// P10.5: the names are read again, when they were put and got, too.

func TestDomainsAgain(t *testing.T) {
	r := rand.New(rand.NewSource(7))
	for range 3000 {
		life := r.Uint32()
		l := []string{soundNames[r.Intn(len(soundNames))]}
		var want []string
		for range r.Intn(6) {
			l = append(l, someText(r))
		}
		for _, s := range l {
			if isName(s) {
				want = append(want, s)
			}
		}
		for _, o := range twice(t, options.Domains(life, l)) {
			wantDomains(t, o.Data, life, want...)
			if o.Kind != 31 {
				t.Fatal(o.Kind)
			}
		}
	}
}

// someText is a text that is a name often, but not always.
func someText(r *rand.Rand) string {
	b := make([]byte, r.Intn(8))
	for i := range b {
		b[i] = "abcz019-..A_"[r.Intn(12)]
	}
	return string(b)
}

// plainNames are the names of Data by the chapter's words: each way to end them is tried.
func plainNames(b []byte) (l []string, ok bool) {
	for len(b) > 0 && b[0] != 0 {
		end := bytes.IndexByte(b, 0)
		if end < 0 {
			return nil, false
		}
		name := ""
		for at := 0; at < end; at += int(b[at]) + 1 {
			if at+1+int(b[at]) > end {
				return nil, false
			}
			text := string(b[at+1 : at+1+int(b[at])])
			if strings.Contains(text, ".") {
				return nil, false
			}
			name += "." + text
		}
		if !isName(name[1:]) {
			return nil, false
		}
		l, b = append(l, name[1:]), b[end+1:]
	}
	return l, len(l) > 0 && len(bytes.Trim(b, "\x00")) == 0
}

func TestDomainsOfAnything(t *testing.T) {
	r := rand.New(rand.NewSource(8))
	sound := 0
	pieces := [][]byte{{0}, {0}, {1, 'a'}, {1, 'b', 0}, {2, 'c', '-', 0}, {1, 'A'}, {3, 'a'}, {'z'}, {1, '.'}, {64}, {2, '0'}}
	for range 50000 {
		var b []byte
		for range r.Intn(7) {
			b = append(b, pieces[r.Intn(len(pieces))]...)
		}
		data := append(domainsData(5), b...)
		if want, ok := plainNames(b); ok {
			sound++
			wantDomains(t, data, 5, want...)
		} else {
			wantNoDomains(t, data)
		}
	}
	if sound < 1000 {
		t.Error("too few were sound:", sound)
	}
}
