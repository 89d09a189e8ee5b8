package six

import (
	"fmt"
	"slices"
	"strings"
	"testing"

	"fascia/api"
	"fascia/sample"
)

type address = [8]uint16

// addresses: a text, and the address that is parsed from it.
var addresses = []struct {
	s    string
	want address
}{
	// the chapter's
	{"::1", address{7: 1}},
	{"1:2:3:4:5:6:7:8", address{1, 2, 3, 4, 5, 6, 7, 8}},
	{"::ffff:1.2.3.4", address{5: 65535, 6: 258, 7: 772}},
	{"1::", address{1}},
	{"1:2:3:4:5:6:7::", address{1, 2, 3, 4, 5, 6, 7, 0}},
	// zeros before all, behind all, between two, alone
	{"::", address{}},
	{"::8", address{7: 8}},
	{"::2:3:4:5:6:7:8", address{0, 2, 3, 4, 5, 6, 7, 8}},
	{"::7:8", address{6: 7, 7: 8}},
	{"1:2::", address{1, 2}},
	{"1::8", address{0: 1, 7: 8}},
	{"1::3:4:5:6:7:8", address{1, 0, 3, 4, 5, 6, 7, 8}},
	{"1:2:3::5:6:7:8", address{1, 2, 3, 0, 5, 6, 7, 8}},
	{"1:2:3:4:5:6::8", address{1, 2, 3, 4, 5, 6, 0, 8}},
	{"1:2::7:8", address{0: 1, 1: 2, 6: 7, 7: 8}},
	{"1:2:3::8", address{0: 1, 1: 2, 2: 3, 7: 8}},
	// zeros that are written are pieces as others are
	{"0:0:0:0:0:0:0:0", address{}},
	{"0::", address{}},
	{"::0", address{}},
	{"0::0", address{}},
	{"0:0:0::0:0:0:0", address{}},
	{"0:1::0:2:0", address{1: 1, 6: 2}},
	{"1:0:0:0:0:0:0:1", address{0: 1, 7: 1}},
	// digits of either case, zeros that lead
	{"0123:4567:89ab:cdef:ABCD:EF01:aBcD:EfeF", address{0x123, 0x4567, 0x89AB, 0xCDEF, 0xABCD, 0xEF01, 0xABCD, 0xEFEF}},
	{"ffff:FFFF:ffff:FFFF:ffff:FFFF:ffff:FFFF", address{65535, 65535, 65535, 65535, 65535, 65535, 65535, 65535}},
	{"0:00:000:0000:1:01:001:0001", address{4: 1, 5: 1, 6: 1, 7: 1}},
	{"a::F", address{0: 10, 7: 15}},
	{"::000f", address{7: 15}},
	{"2001:DB8::", address{0x2001, 0xDB8}},
	{"8000::8000", address{0: 0x8000, 7: 0x8000}},
	{"1000:0100:10::", address{0x1000, 0x100, 0x10}},
	// embedded addresses, in both forms
	{"1:2:3:4:5:6:1.2.3.4", address{1, 2, 3, 4, 5, 6, 258, 772}},
	{"0:0:0:0:0:0:0.0.0.0", address{}},
	{"::1.2.3.4", address{6: 258, 7: 772}},
	{"::0.0.0.0", address{}},
	{"::255.254.253.252", address{6: 0xFFFE, 7: 0xFDFC}},
	{"::255.255.255.255", address{6: 65535, 7: 65535}},
	{"::10.99.100.199", address{6: 0x0A63, 7: 0x64C7}},
	{"::200.249.250.9", address{6: 0xC8F9, 7: 0xFA09}},
	{"1::1.2.3.4", address{0: 1, 6: 258, 7: 772}},
	{"::6:1.2.3.4", address{5: 6, 6: 258, 7: 772}},
	{"::2:3:4:5:6:1.2.3.4", address{0, 2, 3, 4, 5, 6, 258, 772}},
	{"1:2:3:4:5::1.2.3.4", address{1, 2, 3, 4, 5, 0, 258, 772}},
	{"1:2::5:6:1.2.3.4", address{1, 2, 0, 0, 5, 6, 258, 772}},
}

// many: as much of a text as is enough to be long.
const many = 1 << 20

// noAddresses: texts that are none.
var noAddresses = []string{
	// the chapter's
	":1", "1:2", "1::2::3", "::1.2.3", "::01.2.3.4", "12345::", "1.2.3.4::",
	// colons alone, or too many
	"", ":", ":::", "::::", ":::::", "::::::::", ":::1", "1:::", "1:::2", "::1:::", ":::1::", "1::::2",
	// a colon before all, or behind all, that is alone
	"1:", ":1:", "::1:", ":1::", "1::2:", ":1::2", ":1:2:3:4:5:6:7:8", "1:2:3:4:5:6:7:8:", "1:2:3:4:5:6:7:", ":2:3:4:5:6:7:8", "1:2:3:4:5:6:1.2.3.4:", ":1:2:3:4:5:6:1.2.3.4",
	// zeros twice
	"::1::", "::::1", "1::2::", "::1::2", "1::2:3::4", "::1::1.2.3.4", "1::2::3::4",
	// too few, too many
	"1", "1:2:3", "1:2:3:4:5:6:7", "1:2:3:4:5:6:7:8:9", "0:0:0:0:0:0:0", "0:0:0:0:0:0:0:0:0",
	// no zero that is missing, or less than none
	"1:2:3:4:5:6:7:8::", "::1:2:3:4:5:6:7:8", "1::2:3:4:5:6:7:8", "1:2:3:4::5:6:7:8", "1:2:3:4:5:6:7::8", "0::0:0:0:0:0:0:0",
	"1:2:3:4:5:6:7:8:9::", "::1:2:3:4:5:6:7:8:9", "1:2:3:4:5::5:6:7:8", "1:2:3:4:5:6:7:8::1:2:3:4:5:6:7:8", "1:2:3:4:5:6:7::2:3:4:5:6:7:8",
	// digits that are none, or too many
	"g::", "::g", "::G", "1::/", "::@", "::`", "::-1", "::+1", "::0x1", "::x", "::1_0", "::1h", "::%1", "::1%", "::1%eth0", "::1/64", "[::1]", "[::]",
	"::12345", "::00000", "::00001", "00001::", "1::fffff::", "1:2:3:4:5:6:7:12345", "1:2:3:4:5:6:7:00008", "::11111111111111111",
	" ::", ":: ", "1 ::", ": :", "::1 ", "::1\n", "\x00::", "::\x00", "::\xff", "::\u0661", "::\uff11", "1;2::", "\uff1a\uff1a",
	// embedded addresses that are none
	"::1.2", "::1.2.3.4.5", "::1.2.3.4.", "::.1.2.3.4", "::.1.2.3", "::1.2.3.", "::1..2.3", "::1..3.4", "::1.2..4", "::.", "::..", "::...", "::....", "::.1", "::1.",
	"::256.2.3.4", "::1.256.3.4", "::1.2.256.4", "::1.2.3.256", "::1.2.3.260", "::1.2.3.300", "::1.2.3.999", "::1.2.3.1000", "::1.2.3.65536", "::1.2.3.4294967297", "::1.2.3.18446744073709551617",
	"::00.2.3.4", "::1.02.3.4", "::1.2.03.4", "::1.2.3.04", "::1.2.3.00", "::1.2.3.000", "::1.2.3.004", "::0001.2.3.4", "::1.2.3.010",
	"::a.1.1.1", "::1.a.1.1", "::1.1.a.1", "::1.1.1.a", "::0x1.2.3.4", "::1.2.3.0x4", "::-1.2.3.4", "::+1.2.3.4", "::1.2.3.+4", "::1.2.3.-0", "::1_0.2.3.4", "::1. 2.3.4", "::1.2.3.4 ", "::1,2,3,4", "::1.2.3.\uff11", "::1\u30022\u30023\u30024", "::1.2.3.4\x00", "::258.772",
	// embedded addresses where none may be
	"1.2.3.4", "1.2.3.4:5", "1.2.3.4:1:2:3:4:5:6", "1:1.2.3.4:3:4:5:6:7", "1.2.3.4:5:6:7:8:9:10", "1.2.3.4::1", "1.2.3.4::1.2.3.4", "1:1.2.3.4::", "1:1.2.3.4::1", "1:2:3:4:5:1.2.3.4::", "1:2:3:4:5:6:1.2.3.4::", "1.2.3.4:::", ":1.2.3.4", "::1.2.3.4:5", "::1.2.3.4:", "::1.2.3.4::", "::1.2.3.4:1.2.3.4", "::1:1.2.3.4:1",
	// embedded addresses with too few pieces, or too many
	"1:1.2.3.4", "1:2:3:4:5:1.2.3.4", "1:2:3:4:5:6:7:1.2.3.4", "1:2:3:4:5:6:7:8:1.2.3.4", "::1:2:3:4:5:6:1.2.3.4", "1:2:3:4:5:6::1.2.3.4", "1::2:3:4:5:6:1.2.3.4", "1:2:3:4:5:6:7::1.2.3.4", "1:2:3::4:5:6:1.2.3.4",
}

// P13.1

func wantNone(t *testing.T, s string) {
	t.Helper()
	if x, e := Parse(s); x != (address{}) || e != api.ErrSix {
		t.Errorf("Parse(%.50q) = %x, %d", s, x, e)
	}
}

func TestAddresses(t *testing.T) {
	for _, c := range addresses {
		if x, e := Parse(c.s); x != c.want || e != api.OK {
			t.Errorf("Parse(%q) = %x, %d, want %x", c.s, x, e, c.want)
		}
	}
}

func TestNoAddresses(t *testing.T) {
	for _, s := range noAddresses {
		wantNone(t, s)
	}
}

// TestLong: pieces, digits and points of any number are no address.
func TestLong(t *testing.T) {
	for _, one := range []string{"1", "0", ":", "::", ".", "1:", ":1", "::1", "1.", "0:", "0.", "1:2:3:4:5:6:7:8", "\xff"} {
		s := strings.Repeat(one, many)
		for _, long := range []string{s, "::" + s, s + "::", "1::" + s, "::1." + s, "::1.2.3." + s, "::1.2.3.4." + s, "::1.2.3.4" + s, s + ":1.2.3.4", "1:2:3:4:5:6:7:" + s, "1:2:3:4:5:6:7:8:" + s} {
			wantNone(t, long)
		}
	}
}

// byReference compares what is parsed from s with the chapter's, and returns
// whether it is an address.
func byReference(t *testing.T, s string) bool {
	t.Helper()
	want, wantError := referenceParse(s)
	x, e := Parse(s)
	if x != want || e != wantError {
		t.Fatalf("Parse(%q) = %x, %d, want %x, %d", s, x, e, want, wantError)
	}
	if e == api.OK {
		wantShown(t, x)
	}
	return e == api.OK
}

func TestShapesByReference(t *testing.T) {
	if len(rightShapes) != 2+36+21 {
		t.Errorf("%d shapes", len(rightShapes))
	}
	fill := strings.NewReplacer("p", "aB1", "f", "1.20.0.255")
	for shape := range rightShapes {
		if !byReference(t, fill.Replace(shape)) {
			t.Errorf("%q is no shape of an address", shape)
		}
	}
}

func TestEachByteByReference(t *testing.T) {
	bases := []string{"", "1", "::", "1:2:3:4:5:6:7:8", "1:2:3:4:5:6:1.2.3.4", "ab::C:00d", "::1.20.0.255", "1::"}
	for c := range 256 {
		for _, s := range bases {
			for at := range len(s) + 1 {
				byReference(t, s[:at]+string([]byte{byte(c)})+s[at:])
				if at < len(s) {
					byReference(t, s[:at]+string([]byte{byte(c)})+s[at+1:])
				}
			}
		}
	}
}

func TestShortByReference(t *testing.T) {
	sample.Lists(9, []byte("0f:"), func(b []byte) { byReference(t, string(b)) })
	sample.Lists(5, []byte("0aF:.g1"), func(b []byte) { byReference(t, string(b)) })
	sample.Lists(6, []byte("012569."), func(b []byte) { byReference(t, "::1.1."+string(b)) })
}

func TestPiecesByReference(t *testing.T) {
	found := 0
	see := func(l []string) {
		if byReference(t, strings.Join(l, "")) {
			found++
		}
	}
	sample.Lists(13, []string{"1:", ":"}, see)
	sample.Lists(10, []string{"1:", ":", "2.3.4.5"}, see)
	sample.Lists(6, []string{"1", ":", "::", "2.3.4.5", "2:3:4", "12345", "1.2.3"}, see)
	if found < 100 {
		t.Errorf("%d addresses", found)
	}
}

// some returns an address with zeros at some positions.
func some(next func(below int) int) address {
	var x address
	rare := 1 + next(4)
	for i := range x {
		if next(rare) == 0 {
			x[i] = uint16(next(1 << (1 + next(16))))
		}
	}
	return x
}

// text returns x as text: with a gap or without, zeros that lead, digits of
// either case, an embedded address. It need not be right.
func text(next func(below int) int, x address) string {
	var l []string
	for _, n := range x {
		digits := fmt.Sprintf("%0*x", 1+next(4), n)
		if next(2) == 0 {
			digits = strings.ToUpper(digits)
		}
		l = append(l, digits)
	}
	if next(3) == 0 {
		l = append(l[:6], fmt.Sprintf("%d.%d.%d.%d", x[6]>>8, x[6]&255, x[7]>>8, x[7]&255))
	}
	if next(3) == 0 {
		return strings.Join(l, ":")
	}
	from := next(len(l) + 1)
	to := from + next(len(l)-from+1)
	return strings.Join(l[:from], ":") + "::" + strings.Join(l[to:], ":")
}

// TestNoiseByReference: texts that are right, or nearly so.
func TestNoiseByReference(t *testing.T) {
	next := sample.Noise(13)
	found := 0
	const times = 100000
	for range times {
		s := text(next, some(next))
		if byReference(t, s) {
			found++
		}
		from := next(len(s) + 1)
		to := min(len(s), from+next(3))
		byReference(t, s[:from]+string(sample.Pick(next, next(3), []byte("0129afAFgx:.")))+s[to:])
		byReference(t, string(sample.Pick(next, next(20), []byte("01a:::."))))
	}
	if found < times/4 || found == times {
		t.Errorf("%d of %d are addresses", found, times)
	}
}

// P13.2

// shown: an address, its run, and what it is shown as.
var shown = []struct {
	x          address
	at, length int
	want       string
}{
	// the chapter's
	{address{1, 0, 0, 2, 0, 0, 0, 3}, 4, 3, "1:0:0:2::3"},
	{address{1, 0, 2, 3, 4, 5, 6, 7}, 0, 0, "1:0:2:3:4:5:6:7"},
	// no run, and all of it
	{address{1, 2, 3, 4, 5, 6, 7, 8}, 0, 0, "1:2:3:4:5:6:7:8"},
	{address{0, 1, 0, 1, 0, 1, 0, 1}, 0, 0, "0:1:0:1:0:1:0:1"},
	{address{1, 0, 1, 0, 1, 0, 1, 0}, 0, 0, "1:0:1:0:1:0:1:0"},
	{address{0, 2, 3, 4, 5, 6, 7, 8}, 0, 0, "0:2:3:4:5:6:7:8"},
	{address{1, 2, 3, 4, 5, 6, 7, 0}, 0, 0, "1:2:3:4:5:6:7:0"},
	{address{}, 0, 8, "::"},
	// first, last, between
	{address{7: 1}, 0, 7, "::1"},
	{address{0: 1}, 1, 7, "1::"},
	{address{0: 1, 7: 1}, 1, 6, "1::1"},
	{address{0, 0, 3, 4, 5, 6, 7, 8}, 0, 2, "::3:4:5:6:7:8"},
	{address{1, 2, 3, 4, 5, 6, 0, 0}, 6, 2, "1:2:3:4:5:6::"},
	{address{1, 2, 3, 0, 0, 6, 7, 8}, 3, 2, "1:2:3::6:7:8"},
	// the first one of the longest
	{address{0, 0, 1, 0, 0, 1, 1, 1}, 0, 2, "::1:0:0:1:1:1"},
	{address{0, 0, 1, 0, 0, 1, 0, 0}, 0, 2, "::1:0:0:1:0:0"},
	{address{1, 0, 0, 1, 0, 0, 1, 1}, 1, 2, "1::1:0:0:1:1"},
	{address{0, 0, 0, 1, 1, 0, 0, 0}, 0, 3, "::1:1:0:0:0"},
	{address{0, 0, 0, 1, 0, 0, 0, 0}, 4, 4, "0:0:0:1::"},
	{address{0, 0, 0, 0, 1, 0, 0, 0}, 0, 4, "::1:0:0:0"},
	{address{0, 0, 1, 1, 0, 0, 0, 1}, 4, 3, "0:0:1:1::1"},
	{address{0, 0, 1, 0, 0, 0, 1, 0}, 3, 3, "0:0:1::1:0"},
	{address{0, 1, 0, 0, 1, 0, 0, 0}, 5, 3, "0:1:0:0:1::"},
	// digits of lower case, no zeros that lead, no embedded address
	{address{0xABCD, 0xEF, 0x100, 0x10, 0xF, 0xA00, 0xFFFF, 0x1000}, 0, 0, "abcd:ef:100:10:f:a00:ffff:1000"},
	{address{0x2001, 0xDB8, 0, 0, 1, 0, 0, 1}, 2, 2, "2001:db8::1:0:0:1"},
	{address{5: 65535, 6: 258, 7: 772}, 0, 5, "::ffff:102:304"},
	{address{6: 258, 7: 772}, 0, 6, "::102:304"},
}

func TestShown(t *testing.T) {
	for _, c := range shown {
		if at, length := Run(c.x); at != c.at || length != c.length {
			t.Errorf("Run(%x) = %d, %d, want %d, %d", c.x, at, length, c.at, c.length)
		}
		if got := Show(c.x); got != c.want {
			t.Errorf("Show(%x) = %q, want %q", c.x, got, c.want)
		}
	}
}

// wantShown compares what x is shown as with the chapter's, and parses it (P13.3).
func wantShown(t *testing.T, x address) {
	t.Helper()
	wantAt, wantLength := referenceRun(x)
	if at, length := Run(x); at != wantAt || length != wantLength {
		t.Fatalf("Run(%x) = %d, %d, want %d, %d", x, at, length, wantAt, wantLength)
	}
	s := Show(x)
	if want := referenceShow(x); s != want {
		t.Fatalf("Show(%x) = %q, want %q", x, s, want)
	}
	if again, e := Parse(s); again != x || e != api.OK {
		t.Fatalf("%x is shown as %q, which is parsed as %x, %d", x, s, again, e)
	}
}

// spread calls see with addresses that have these numbers, or zeros, at each position.
func spread(of []uint16, see func(address)) {
	for left := range 1 << 8 {
		var x address
		for i := range x {
			if left>>i&1 == 0 {
				x[i] = of[i%len(of)]
			}
		}
		see(x)
	}
}

var numbers = [][]uint16{{1}, {0xFFFF}, {0x10, 0x100}, {0x1000, 0xA, 0xFF}, {0x8000, 1, 0xF00F, 0xABC, 0xDEF0}}

func TestZerosByReference(t *testing.T) {
	for _, of := range numbers {
		spread(of, func(x address) { wantShown(t, x) })
	}
}

func TestEachNumberByReference(t *testing.T) {
	for n := range 1 << 16 {
		wantShown(t, address{0: uint16(n)})
		wantShown(t, address{1, 0, 0, uint16(n), 0, 0, 7, 8})
		wantShown(t, address{1, 0, 3, 4, 0, 6, 0, uint16(n)})
	}
}

// P13.3

func TestNoiseIsShown(t *testing.T) {
	next := sample.Noise(26)
	for range 100000 {
		wantShown(t, some(next))
	}
}

func TestShownDifferently(t *testing.T) {
	by := map[string]address{}
	see := func(x address) {
		s := Show(x)
		if other, ok := by[s]; ok && other != x {
			t.Fatalf("%x and %x are shown as %q", other, x, s)
		}
		by[s] = x
	}
	for _, of := range numbers {
		spread(of, see)
	}
	sample.Lists(8, []uint16{0, 1, 0x10}, func(l []uint16) {
		see(address(slices.Concat(l, make([]uint16, 8-len(l)))))
		see(address(slices.Concat(make([]uint16, 8-len(l)), l)))
	})
	if len(by) < 3*3*3*3*3*3*3*3 {
		t.Errorf("%d addresses", len(by))
	}
}
