package four

import (
	"math"
	"strconv"
	"strings"
	"testing"

	"fascia/api"
	"fascia/sample"
)

var (
	zeros = strings.Repeat("0", 1000)
	nines = strings.Repeat("9", 1000)
)

// numbers: a text, and the number whose text it is.
var numbers = []struct {
	s    string
	want uint64
	good bool
}{
	{"0", 0, true},
	{"1", 1, true},
	{"9", 9, true},
	{"10", 10, true},
	{"98", 98, true},
	{"4294967295", 1<<32 - 1, true},
	// octal, as soon as there are two bytes
	{"00", 0, true},
	{"000", 0, true},
	{"01", 1, true},
	{"07", 7, true},
	{"010", 8, true},
	{"0010", 8, true},
	{"0777", 511, true},
	{"037777777777", 1<<32 - 1, true},
	{zeros + "17", 15, true},
	// hexadecimal, of either case, and without digits
	{"0x", 0, true},
	{"0X", 0, true},
	{"0x0", 0, true},
	{"0xa", 10, true},
	{"0XF", 15, true},
	{"0xAbCdEf", 0xABCDEF, true},
	{"0x10", 16, true},
	{"0x08", 8, true},
	{"0xFFFFffff", 1<<32 - 1, true},
	{"0x" + zeros + "9f", 0x9F, true},
	// what is too great counts as the first of these
	{"4294967296", 1 << 32, true},
	{"4294967297", 1 << 32, true},
	{"8589934592", 1 << 32, true},
	{"18446744073709551616", 1 << 32, true},
	{"18446744073709551617", 1 << 32, true},
	{"99999999999999999999", 1 << 32, true},
	{nines, 1 << 32, true},
	{"040000000000", 1 << 32, true},
	{"0100000000000000000000001", 1 << 32, true},
	{"0x100000000", 1 << 32, true},
	{"0x10000000000000001", 1 << 32, true},
	{"1" + zeros, 1 << 32, true},
	{"01" + zeros, 1 << 32, true},
	{"0x1" + zeros, 1 << 32, true},
	// none
	{"", 0, false},
	{"a", 0, false},
	{"f", 0, false},
	{"9a", 0, false},
	{"a9", 0, false},
	{"08", 0, false},
	{"09", 0, false},
	{"0a", 0, false},
	{"078", 0, false},
	{"0787", 0, false},
	{"x", 0, false},
	{"x1", 0, false},
	{"00x1", 0, false},
	{"1x1", 0, false},
	{"0x0x", 0, false},
	{"0xx", 0, false},
	{"0xg", 0, false},
	{"0x1G", 0, false},
	{"0x@", 0, false},
	{"0x`", 0, false},
	{"0b1", 0, false},
	{"0o7", 0, false},
	{"1_0", 0, false},
	{"-1", 0, false},
	{"+1", 0, false},
	{" 1", 0, false},
	{"1 ", 0, false},
	{"1.", 0, false},
	{".1", 0, false},
	{"1.2", 0, false},
	{"1e3", 0, false},
	{"\x00", 0, false},
	{"0\x00", 0, false},
	{"1\xff", 0, false},
	{"\u0661", 0, false},
	{"\uff11", 0, false},
	{nines + "a", 0, false},
	{"0x1" + zeros + "g", 0, false},
}

// P12.1

func TestNumbers(t *testing.T) {
	for _, c := range numbers {
		if n, good := Number(c.s); n != c.want || good != c.good {
			t.Errorf("Number(%q) = %d, %v, want %d, %v", c.s, n, good, c.want, c.good)
		}
	}
}

// ends: a text, and whether it ends in a number.
var ends = []struct {
	s    string
	want bool
}{
	// the chapter's
	{"", false},
	{"08", true},
	{"a.0x", true},
	// one part, or the last one
	{"1", true},
	{"a", false},
	{"a.1", true},
	{"1.a", false},
	{"a.b.c.d.e.1", true},
	{"1.2.3.4.5.6", true},
	{"1.2.3.4.5.a", false},
	{"a..1", true},
	{".1", true},
	{"..1", true},
	{".a", false},
	// a point at the end is left out, but not a second one
	{".", false},
	{"..", false},
	{"...", false},
	{"1.", true},
	{"a.1.", true},
	{"a.1..", false},
	{"1..", false},
	{"1...", false},
	{".1.", true},
	{"a.", false},
	{"1.a.", false},
	{"0x.", true},
	// decimal digits are enough, however many, and whatever base they are of
	{"09", true},
	{"a.0098", true},
	{"256", true},
	{"1.99999999999", true},
	{nines, true},
	{zeros + "9", true},
	// so are those of another base
	{"0x", true},
	{"0X", true},
	{"a.0xFf", true},
	{"a.017", true},
	{"0x100000000", true},
	{"0xg", false},
	{"0x1g", false},
	{"ff", false},
	{"0ff", false},
	{"a.1a", false},
	{"a.1 ", false},
	{"a. 1", false},
	{"a.-1", false},
	{"a.+1", false},
	{"a.0x-1", false},
	{"a.\uff11", false},
	{"a\uff0e1", false},
	{"a:1", false},
	{"1\x00", false},
	{"\xff.1", true},
}

func TestEnds(t *testing.T) {
	for _, c := range ends {
		if got := Ends(c.s); got != c.want {
			t.Errorf("Ends(%q) = %v", c.s, got)
		}
	}
}

// addresses: a text, and the address that is parsed from it.
var addresses = []struct {
	s    string
	want uint32
}{
	// the chapter's
	{"192.168.0.1", 3232235521},
	{"0xc0.0250.1", 3232235521},
	{"3232235521", 3232235521},
	{"1.2.3.4.", 16909060},
	// the last part fills what the others leave
	{"0", 0},
	{"1", 1},
	{"256", 256},
	{"4294967295", math.MaxUint32},
	{"1.2", 0x01000002},
	{"1.256", 0x01000100},
	{"1.16777215", 0x01FFFFFF},
	{"255.16777215", math.MaxUint32},
	{"1.2.3", 0x01020003},
	{"1.2.256", 0x01020100},
	{"1.2.65535", 0x0102FFFF},
	{"255.255.65535", math.MaxUint32},
	{"1.2.3.4", 0x01020304},
	{"255.254.253.252", 0xFFFEFDFC},
	{"255.255.255.255", math.MaxUint32},
	{"0.0.0.0", 0},
	{"128.0.0.0", 0x80000000},
	// a point at the end
	{"256.", 256},
	{"1.2.", 0x01000002},
	{"1.2.3.", 0x01020003},
	// all bases, at all places
	{"0x", 0},
	{"0x.0X.00.0", 0},
	{"0x1.02.3.0X4", 0x01020304},
	{"0377.0xff.255.0xFF", math.MaxUint32},
	{"037777777777", math.MaxUint32},
	{"0xffffffff", math.MaxUint32},
	{zeros + "1.1", 0x01000001},
	{"1.0x" + zeros + "ffffff", 0x01FFFFFF},
}

// noAddresses: texts that are none.
var noAddresses = []string{
	// the chapter's
	"256.1", "1..2", "1.2.3.4.5", "08",
	// empty parts
	"", ".", "..", "...", "....", ".....", "1..", "1.2..", "1.2.3..", "1.2.3.4..", ".1", ".1.2", "1.2..3", ".1.2.3", "1.2.3.4...",
	// too many parts, whatever they are
	"1.2.3.4.5.", "0.0.0.0.0", "1.2.3.4.5.6", "1.2.3.4.a", "a.1.2.3.4", ".1.2.3.4", "0x.0x.0x.0x.0x",
	// a part that is not the text of a number
	"a", "1.a", "a.1", "1.a.1", "1.2.3.a", "1.2.3.09", "08.1", "0xg", "1.0xg.1", "-1", "+1", " 1", "1 ", "1. 2", "1.2.3.4 ", "1,2", "1:2", "1.2.3.4\x00", "\xff", "1.\xff", "\uff11", "\u0661.1", "1\u30022",
	// one before the last that is too great
	"256.0", "0x100.0", "0400.0", "1.256.0", "1.2.256.0", "256.2.3.4", "4294967296.1", "1.4294967296.1", "18446744073709551617.1", nines + ".1", "1.65535.1", "256.256.256.256",
	// the last one
	"4294967296", "18446744073709551616", "18446744073709551617", nines, "0x100000000", "040000000000", "0x10000000000000000",
	"1.16777216", "1.4294967295", "1.4294967296", "255.16777216", "1.2.65536", "1.2.16777215", "1.2.3.256", "1.2.3.65535", "1.2.3.4294967296", "0.0.0.256", "1.2.3.0x100", "1.2.3.0400",
}

// P12.2

func TestAddresses(t *testing.T) {
	for _, c := range addresses {
		if x, e := Parse(c.s); x != c.want || e != api.OK {
			t.Errorf("Parse(%q) = %x, %d, want %x", c.s, x, e, c.want)
		}
	}
}

func TestNoAddresses(t *testing.T) {
	for _, s := range noAddresses {
		if x, e := Parse(s); x != 0 || e != api.ErrFour {
			t.Errorf("Parse(%q) = %x, %d", s, x, e)
		}
	}
}

// TestLong: parts and digits of any number are looked at, but not kept.
func TestLong(t *testing.T) {
	many := 1 << 20
	points := strings.Repeat(".", many)
	ones := strings.Repeat("1.", many)
	for _, s := range []string{points, points + "1", "1" + points, ones, ones + "a", strings.Repeat("1", many), strings.Repeat("a", many)} {
		if x, e := Parse(s); x != 0 || e != api.ErrFour {
			t.Errorf("%.5q…: %x, %d", s, x, e)
		}
	}
	if x, e := Parse(strings.Repeat("0", many) + "17." + strings.Repeat("0", many)); x != 15<<24 || e != api.OK {
		t.Errorf("leading zeros: %x, %d", x, e)
	}
	if Ends(points) || Ends(ones+"a") || !Ends(ones) || !Ends(points+"1") {
		t.Error("ends of long texts")
	}
}

// byReference compares all answers about s with the chapter's.
func byReference(t *testing.T, s string) {
	t.Helper()
	wantNumber, wantGood := referenceNumber(s)
	if n, good := Number(s); n != wantNumber.Uint64() || good != wantGood {
		t.Fatalf("Number(%q) = %d, %v, want %d, %v", s, n, good, wantNumber, wantGood)
	}
	if got, want := Ends(s), referenceEnds(s); got != want {
		t.Fatalf("Ends(%q) = %v", s, got)
	}
	want, wantError := referenceParse(s)
	x, e := Parse(s)
	if x != want || e != wantError {
		t.Fatalf("Parse(%q) = %x, %d, want %x, %d", s, x, e, want, wantError)
	}
	if e == api.OK {
		wantConsequences(t, s, x)
	}
}

// wantConsequences: s was parsed as x.
func wantConsequences(t *testing.T, s string, x uint32) {
	t.Helper()
	if !Ends(s) {
		t.Fatalf("%q is parsed, but does not end in a number", s)
	}
	wantAgain(t, x)
}

func TestEachByteByReference(t *testing.T) {
	for c := range 256 {
		b := string([]byte{byte(c)})
		for _, s := range []string{b, "1" + b, "0" + b, "00" + b, "0x" + b, "0X1" + b, b + "1", "1." + b, b + ".1", "1" + b + "2", "1.2.3.0x" + b} {
			byReference(t, s)
		}
	}
}

func TestShortByReference(t *testing.T) {
	sample.Lists(7, []byte("017.x"), func(b []byte) { byReference(t, string(b)) })
	sample.Lists(5, []byte("0289afgxXF."), func(b []byte) { byReference(t, string(b)) })
}

// pieces: parts at the limits of what may be, in each base, and wrong ones.
var pieces = []string{
	"", "0", "1", "255", "256", "65535", "65536", "16777215", "16777216", "4294967295", "4294967296",
	"0377", "0400", "0177777", "0200000", "0xff", "0x100", "0xFFFF", "0x10000", "0xffffff", "0x1000000", "0x", "08", "a",
}

func TestPiecesByReference(t *testing.T) {
	sample.Lists(4, pieces, func(l []string) { byReference(t, strings.Join(l, ".")) })
	few := []string{"", "0", "255", "256", "0x", "a"}
	sample.Lists(6, few, func(l []string) { byReference(t, strings.Join(l, ".")) })
}

func TestNoiseByReference(t *testing.T) {
	next := sample.Noise(12)
	for i := range 200000 {
		of := []string{"0123456789", "01234567.", "0123456789abcdefABCDEFxX.", "0x.f"}[i%4]
		byReference(t, string(sample.Pick(next, next(16), []byte(of))))
	}
}

// P12.3

func TestShow(t *testing.T) {
	for _, c := range []struct {
		x    uint32
		want string
	}{
		{0, "0.0.0.0"},
		{1, "0.0.0.1"},
		{255, "0.0.0.255"},
		{256, "0.0.1.0"},
		{0x01020304, "1.2.3.4"},
		{3232235521, "192.168.0.1"},
		{0x7F000001, "127.0.0.1"},
		{0x0A640963, "10.100.9.99"},
		{0x80000000, "128.0.0.0"},
		{0xFF000000, "255.0.0.0"},
		{0xFEFDFCFB, "254.253.252.251"},
		{math.MaxUint32, "255.255.255.255"},
	} {
		if got := Show(c.x); got != c.want {
			t.Errorf("Show(%x) = %q, want %q", c.x, got, c.want)
		}
	}
}

func TestShowOfEachByte(t *testing.T) {
	for n := range uint32(256) {
		s := strconv.Itoa(int(n))
		for _, c := range []struct {
			x    uint32
			want string
		}{
			{n << 24, s + ".0.0.0"},
			{n<<16 | 0xFF00FFFF, "255." + s + ".255.255"},
			{n<<8 | 0x01020004, "1.2." + s + ".4"},
			{n, "0.0.0." + s},
		} {
			if got := Show(c.x); got != c.want {
				t.Errorf("Show(%x) = %q, want %q", c.x, got, c.want)
			}
		}
	}
}

// P12.4

func wantAgain(t *testing.T, x uint32) {
	t.Helper()
	s := Show(x)
	if again, e := Parse(s); again != x || e != api.OK || !Ends(s) {
		t.Fatalf("%x is shown as %q, which is parsed as %x, %d", x, s, again, e)
	}
}

func TestShownIsParsed(t *testing.T) {
	for at := range 32 {
		for n := range uint32(256) {
			wantAgain(t, n<<at)
			wantAgain(t, ^(n << at))
		}
	}
	next := sample.Noise(4)
	for range 100000 {
		wantAgain(t, uint32(next(1<<31))<<1|uint32(next(2)))
	}
}

// written returns texts of n: in all bases, with and without zeros that lead.
func written(n uint64) []string {
	digits := func(base int) string { return strconv.FormatUint(n, base) }
	return []string{
		digits(10), "0" + digits(8), "000" + digits(8),
		"0x" + digits(16), "0X" + strings.ToUpper(digits(16)), "0x00" + digits(16),
	}
}

func TestBasesAreTheSame(t *testing.T) {
	next := sample.Noise(8)
	parsed := 0
	const times = 20000
	for range times {
		count := 1 + next(4)
		var decimals, others []string
		for i := range count {
			size := 8
			if i == count-1 {
				size = 8*(5-count) + next(2)
			}
			forms := written((uint64(next(1<<17))<<16 | uint64(next(1<<16))) & (1<<size - 1))
			decimals = append(decimals, forms[0])
			others = append(others, forms[next(len(forms))])
		}
		x, e := Parse(strings.Join(decimals, "."))
		if y, f := Parse(strings.Join(others, ".")); x != y || e != f {
			t.Fatalf("%q: %x, %d; %q: %x, %d", decimals, x, e, others, y, f)
		}
		if e == api.OK {
			parsed++
		}
	}
	if parsed < times/2 || parsed == times {
		t.Errorf("%d of %d are addresses", parsed, times)
	}
}
