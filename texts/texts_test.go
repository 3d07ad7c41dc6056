package texts_test

import (
	"math/rand"
	"net/netip"
	"strconv"
	"strings"
	"testing"

	"sojourner/api"
	"sojourner/texts"
)

// of is an address of eight groups.
func of(groups ...uint16) (a api.Addr) {
	for i, g := range groups {
		a[2*i], a[2*i+1] = byte(g/256), byte(g%256)
	}
	return a
}

// groups of an address, by the chapter's words.
func groups(a api.Addr) (l []int) {
	for i := 0; i < 16; i += 2 {
		l = append(l, int(a[i])*256+int(a[i+1]))
	}
	return l
}

func hex(n int) string { return strconv.FormatInt(int64(n), 16) }

// plainPut tries every run of every length, the longest first, from the beginning on.
func plainPut(a api.Addr) string {
	l := groups(a)
	for many := 8; many >= 2; many-- {
		for from := 0; from+many <= 8; from++ {
			if noughts(l[from : from+many]) {
				return plainWords(l[:from]) + "::" + plainWords(l[from+many:])
			}
		}
	}
	return plainWords(l)
}

func noughts(l []int) bool {
	for _, n := range l {
		if n != 0 {
			return false
		}
	}
	return true
}

func plainWords(l []int) string {
	s := ""
	for i, n := range l {
		if i > 0 {
			s += ":"
		}
		s += hex(n)
	}
	return s
}

// plainGet is what the library takes, without what is no address of the sixth version alone.
func plainGet(s string) (api.Addr, api.Errno) {
	a, err := netip.ParseAddr(s)
	if err != nil || !a.Is6() || a.Zone() != "" {
		return api.Addr{}, api.ErrForm
	}
	return a.As16(), api.OK
}

func put(t *testing.T, a api.Addr, want string) {
	t.Helper()
	if s := texts.Put(a); s != want {
		t.Errorf("Put(%x) = %q, not %q", a, s, want)
	}
}

// got tells a fault, if a text is not that address's.
func got(t *testing.T, s string, want api.Addr) {
	t.Helper()
	if a, e := texts.Get(s); a != want || e != api.OK {
		t.Errorf("Get(%q) = %x, %d, not %x", s, a, e, want)
	}
}

// refused tells a fault, if a text counts as one, or anything comes beside the error.
func refused(t *testing.T, l ...string) {
	t.Helper()
	for _, s := range l {
		if a, e := texts.Get(s); a != (api.Addr{}) || e != api.ErrForm {
			t.Errorf("Get(%q) = %x, %d, not ErrForm", s, a, e)
		}
	}
}

// chance is an address many of whose groups are noughts, or short.
func chance(r *rand.Rand) api.Addr {
	l := make([]uint16, 8)
	for i := range l {
		if r.Intn(2) == 0 {
			l[i] = uint16(r.Intn(65536) >> (4 * r.Intn(4)))
		}
	}
	return of(l...)
}

// wrote is some text of an address: its digits in any way, any run as '::', or none, the last bytes as decimals, or not.
func wrote(r *rand.Rand, a api.Addr) string {
	words := []string{}
	for _, n := range groups(a) {
		w := strings.Repeat("0", r.Intn(4)) + hex(n)
		w = w[max(0, len(w)-4):]
		if r.Intn(2) == 0 {
			w = strings.ToUpper(w)
		}
		words = append(words, w)
	}
	l := groups(a)
	if r.Intn(3) == 0 {
		b := []string{}
		for _, n := range a[12:] {
			b = append(b, strconv.Itoa(int(n)))
		}
		words, l = append(words[:6], strings.Join(b, ".")), l[:6]
	}
	from, to := r.Intn(len(l)+1), r.Intn(len(l)+1)
	if from < to && noughts(l[from:to]) {
		return strings.Join(words[:from], ":") + "::" + strings.Join(words[to:], ":")
	}
	return strings.Join(words, ":")
}

// spoilt is the text with a byte or two changed, put in, taken out or said twice.
func spoilt(r *rand.Rand, s string) string {
	const bytes = "::::....0129afAFgG \x80%-"
	for range 1 + r.Intn(2) {
		at := r.Intn(len(s) + 1)
		b := string(bytes[r.Intn(len(bytes))])
		switch r.Intn(4) {
		case 0:
			s = s[:at] + b + s[at:]
		case 1:
			s = s[:at] + s[min(at+1, len(s)):]
		case 2:
			s = s[:at] + b + s[min(at+1, len(s)):]
		case 3:
			s = s[:at] + s[max(0, at-r.Intn(6)):]
		}
	}
	return s
}

func TestChapterExamples(t *testing.T) {
	put(t, api.Addr{}, "::")
	put(t, api.Addr{15: 1}, "::1")
	put(t, of(0x2001, 0xdb8, 0, 0, 1, 0, 0, 1), "2001:db8::1:0:0:1")
	put(t, of(0, 0, 0, 1, 0, 0, 0, 0), "0:0:0:1::")
	put(t, of(1, 0, 2, 3, 4, 5, 6, 7), "1:0:2:3:4:5:6:7")
	refused(t, "1::2::3", "12345::", "1:2:3:4:5:6:7:8::")
	got(t, "::1.2.3.4", of(0, 0, 0, 0, 0, 0, 0x102, 0x304))
	got(t, "1:2:3:4:5:6:7::", of(1, 2, 3, 4, 5, 6, 7, 0))
}

// P7.1: a group is told in as few digits as there can be, and in small ones.
func TestPutTellsGroups(t *testing.T) {
	put(t, of(1, 0x23, 0x456, 0x789a, 0xbcde, 0xf, 0xff, 0xffff), "1:23:456:789a:bcde:f:ff:ffff")
	put(t, of(0x1000, 0x100, 0x10, 0x1, 0xa000, 0xb00, 0xc0, 0xd), "1000:100:10:1:a000:b00:c0:d")
	put(t, of(0xffff, 0xffff, 0xffff, 0xffff, 0xffff, 0xffff, 0xffff, 0xffff), "ffff:ffff:ffff:ffff:ffff:ffff:ffff:ffff")
	put(t, api.Addr{10: 255, 11: 255, 12: 192, 14: 2, 15: 33}, "::ffff:c000:221")
}

// P7.1: a run of one group alone is written out, wherever it stands.
func TestPutWritesOutRunsOfOne(t *testing.T) {
	put(t, of(0, 2, 3, 4, 5, 6, 7, 8), "0:2:3:4:5:6:7:8")
	put(t, of(1, 2, 3, 0, 5, 6, 7, 8), "1:2:3:0:5:6:7:8")
	put(t, of(1, 2, 3, 4, 5, 6, 7, 0), "1:2:3:4:5:6:7:0")
	put(t, of(0, 2, 0, 4, 0, 6, 0, 8), "0:2:0:4:0:6:0:8")
}

// P7.1: a run is '::' at the beginning, in the middle, and at the end.
func TestPutPutsRunsAway(t *testing.T) {
	put(t, of(0, 0, 3, 4, 5, 6, 7, 8), "::3:4:5:6:7:8")
	put(t, of(1, 2, 0, 0, 5, 6, 7, 8), "1:2::5:6:7:8")
	put(t, of(1, 2, 3, 4, 5, 6, 0, 0), "1:2:3:4:5:6::")
	put(t, of(1, 0, 0, 0, 0, 0, 0, 0), "1::")
	put(t, of(1, 0, 0, 0, 0, 0, 0, 8), "1::8")
	put(t, of(0, 0, 0, 0, 0, 0, 0, 8), "::8")
}

// P7.1: of several runs the longest one is '::', of several of that length the first.
func TestPutTakesTheLongestRun(t *testing.T) {
	put(t, of(0, 0, 3, 0, 0, 6, 0, 0), "::3:0:0:6:0:0")
	put(t, of(1, 0, 0, 4, 0, 0, 7, 8), "1::4:0:0:7:8")
	put(t, of(1, 0, 0, 4, 0, 0, 0, 8), "1:0:0:4::8")
	put(t, of(0, 0, 3, 0, 0, 0, 7, 8), "0:0:3::7:8")
	put(t, of(0, 0, 0, 4, 5, 0, 0, 8), "::4:5:0:0:8")
	put(t, of(0, 2, 0, 0, 5, 0, 7, 0), "0:2::5:0:7:0")
	put(t, of(0, 0, 3, 4, 5, 0, 0, 0), "0:0:3:4:5::")
	put(t, of(0, 0, 0, 4, 0, 0, 0, 8), "::4:0:0:0:8")
}

// P7.1: whichever of the groups are noughts.
func TestPutOfAllRuns(t *testing.T) {
	for set := range 256 {
		var l [8]uint16
		for i := range l {
			if set>>i&1 == 1 {
				l[i] = uint16(i + 9)
			}
		}
		a := of(l[:]...)
		put(t, a, plainPut(a))
	}
}

// P7.2: groups of one to four digits, small and capital ones.
func TestGetTakesGroups(t *testing.T) {
	got(t, "1:23:456:789a:BCDE:f:fF:Ffff", of(1, 0x23, 0x456, 0x789a, 0xbcde, 0xf, 0xff, 0xffff))
	got(t, "0001:0023:0456:0000:000:00:0:00a0", of(1, 0x23, 0x456, 0, 0, 0, 0, 0xa0))
	got(t, "a:b:c:d:e:f:A:F", of(10, 11, 12, 13, 14, 15, 10, 15))
	refused(t, "00001::", "12345:2:3:4:5:6:7:8", "1:2:3:4:5:6:7:00000", "::fffff", "1:2:3:10000:5:6:7:8")
}

// P7.2: every rune of one byte, every such byte by itself, and more than bytes, as a digit.
func TestGetTakesDigitsAlone(t *testing.T) {
	const digits = "0123456789abcdefABCDEF"
	for b := range 256 {
		s := "1::2" + string([]byte{byte(b)})
		switch {
		case b == ':' || b < 128 && !strings.Contains(digits, string(rune(b))):
			refused(t, s)
		case b >= 128:
			refused(t, s, "1::"+string([]byte{byte(b)}), "1::2"+string(rune(b)))
		default:
			n, _ := strconv.ParseUint(s[3:], 16, 16)
			got(t, s, of(1, 0, 0, 0, 0, 0, 0, uint16(n)))
		}
	}
	refused(t, "::é", "::１", "::٣", "::\xff\xfe", "::\xc3", "\x00", "::0x1", "::-1", "::+1", "::1_0", " ::1", "::1 ", "::1\n", "fe80::1%1", "[::1]", "::1/64")
	refused(t, "1;2;3;4;5;6;7;8", "/::", "@::", "`::", "g::", "G::")
}

// P7.2: '::' stands once, for one group at least, for as many as there may be.
func TestGetTakesOneGap(t *testing.T) {
	got(t, "::", api.Addr{})
	got(t, "::8", of(0, 0, 0, 0, 0, 0, 0, 8))
	got(t, "1::", of(1))
	got(t, "1::8", of(1, 0, 0, 0, 0, 0, 0, 8))
	got(t, "0::0", api.Addr{})
	got(t, "::2:3:4:5:6:7:8", of(0, 2, 3, 4, 5, 6, 7, 8))
	got(t, "1:2:3:4::6:7:8", of(1, 2, 3, 4, 0, 6, 7, 8))
	got(t, "1::0:0:8", of(1, 0, 0, 0, 0, 0, 0, 8))
	refused(t, "::1::", "1::2::3", "::1::2", "1::2::", "1::::2", "::::")
	refused(t, "::1:2:3:4:5:6:7:8", "1:2:3:4::5:6:7:8", "1:2:3:4:5:6:7:8::", "1:2:3:4:5:6:7:8::9", "0::0:0:0:0:0:0:0")
}

// P7.2: without '::' there are eight groups, no fewer, and no more.
func TestGetCountsGroups(t *testing.T) {
	got(t, "1:2:3:4:5:6:7:8", of(1, 2, 3, 4, 5, 6, 7, 8))
	got(t, "0:0:0:0:0:0:0:0", api.Addr{})
	refused(t, "1", "1:2", "1:2:3:4:5:6:7", "1:2:3:4:5:6:7:8:9", "1:2:3:4:5:6:7:8:9:a", "12345678")
}

// P7.2: a colon stands between two, and nowhere else.
func TestGetWantsBothSidesOfAColon(t *testing.T) {
	refused(t, "", ":", ":::", ":1", "1:", ":1::", "1::2:", ":1:2:3:4:5:6:7", "1:2:3:4:5:6:7:", ":1:2:3:4:5:6:7:8", "1:2:3:4:5:6:7:8:", ":::1", "1:::", "1:::2", "::1:")
	refused(t, strings.Repeat(":", 100), strings.Repeat("1:", 100), strings.Repeat("::", 1<<20), strings.Repeat("1:", 1<<20)+"1", strings.Repeat("0", 1<<20)+"::")
}

// P7.2: decimals are the four last bytes.
func TestGetTakesDecimals(t *testing.T) {
	got(t, "1:2:3:4:5:6:0.0.0.0", of(1, 2, 3, 4, 5, 6, 0, 0))
	got(t, "1:2:3:4:5:6:255.255.255.255", of(1, 2, 3, 4, 5, 6, 0xffff, 0xffff))
	got(t, "::9.10.99.100", of(0, 0, 0, 0, 0, 0, 0x90a, 0x6364))
	got(t, "::ffff:192.0.2.33", of(0, 0, 0, 0, 0, 0xffff, 0xc000, 0x221))
	got(t, "1:2:3:4:5::6.7.8.9", of(1, 2, 3, 4, 5, 0, 0x607, 0x809))
	got(t, "::2:3:4:5:6:7.8.9.249", of(0, 2, 3, 4, 5, 6, 0x708, 0x9f9))
	got(t, "1::200.1.2.3", of(1, 0, 0, 0, 0, 0, 0xc801, 0x203))
}

// P7.2: each decimal is of 0 to 255, without a needless nought.
func TestGetRefusesDecimals(t *testing.T) {
	for at := range 4 {
		for _, w := range []string{"256", "260", "300", "999", "1000", "00", "01", "007", "000", "", "a", "1a", "-1", "+1", " 1", "0x1", "é", "\xff", "4294967296", "18446744073709551617"} {
			l := []string{"1", "2", "3", "4"}
			l[at] = w
			refused(t, "::"+strings.Join(l, "."), "1:2:3:4:5:6:"+strings.Join(l, "."))
		}
	}
	for n := range 300 {
		s := "::1.2.3." + strconv.Itoa(n)
		if n > 255 {
			refused(t, s)
			continue
		}
		got(t, s, of(0, 0, 0, 0, 0, 0, 0x102, 0x300+uint16(n)))
	}
}

// P7.2: there are four decimals, at the end alone, in place of two groups.
func TestGetPlacesDecimals(t *testing.T) {
	refused(t, "::1.2", "::1.2.3", "::1.2.3.4.5", "::1.2.3.4.", "::.1.2.3.4", "::1..2.3.4", "::1.2.3.", "::.", "::...", "::....")
	refused(t, "1.2.3.4", "1.2.3.4::", "1.2.3.4::5", "1.2.3.4:1:2:3:4:5:6", "::1.2.3.4:5", "::1.2.3.4:5.6.7.8", "1:2:3.4.5.6::7", "1:2:3:4:5:1.2.3.4:6", "1:2:3:4:5:6.7.8.9::")
	refused(t, "1:2:3:4:5:1.2.3.4", "1:2:3:4:5:6:7:1.2.3.4", "1:2:3:4:5:6::1.2.3.4", "::2:3:4:5:6:7:1.2.3.4", "1:2:3:4:5:6:7:8:1.2.3.4", "1:2:3:4:5:6:1.2.3.4::", "::1.2.3.4::")
}

// P7.2: whatever way an address is written in; and what is no such way is refused.
func TestGetOfManyTexts(t *testing.T) {
	r := rand.New(rand.NewSource(7))
	right, wrong := 0, 0
	for range 60000 {
		a := chance(r)
		s := wrote(r, a)
		got(t, s, a)
		s = spoilt(r, s)
		want, e := plainGet(s)
		if e != api.OK {
			refused(t, s)
			wrong++
			continue
		}
		got(t, s, want)
		right++
	}
	if right < 1000 || wrong < 1000 {
		t.Errorf("%d texts were right, %d wrong: too few of one kind", right, wrong)
	}
}

// P7.3: the text of an address is one, of it; so no two have one text.
func TestTextsAreGotAgain(t *testing.T) {
	r := rand.New(rand.NewSource(73))
	seen := map[string]api.Addr{}
	for range 60000 {
		a := chance(r)
		s := texts.Put(a)
		if s != plainPut(a) {
			t.Errorf("Put(%x) = %q, not %q", a, s, plainPut(a))
		}
		got(t, s, a)
		if b, ok := seen[s]; ok && b != a {
			t.Errorf("%x and %x have the text %q", a, b, s)
		}
		seen[s] = a
	}
}

// P7.3: so it is for whatever bytes an address has.
func TestTextsOfAnyBytesAreGotAgain(t *testing.T) {
	r := rand.New(rand.NewSource(37))
	for range 20000 {
		var a api.Addr
		r.Read(a[:])
		got(t, texts.Put(a), a)
	}
}

// A text that is taken is left as it is, and so is the next answer.
func TestGetKeepsNothing(t *testing.T) {
	a, _ := texts.Get("1::2")
	a[0] = 255
	got(t, "1::2", of(1, 0, 0, 0, 0, 0, 0, 2))
}
