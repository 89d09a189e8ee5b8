package host

import (
	"math"
	"slices"
	"strings"
	"testing"

	"fascia/api"
	"fascia/four"
	"fascia/sample"
	"fascia/utf"
)

// far: numbers that are no scalar, those at the ends of what there is, and those that are a bracket, a colon or a digit in their lower bits.
var far = []rune{-1, -0x5B, -0x20, math.MinInt32, math.MinInt32 + 0x5B, math.MinInt32 + 0x3A, 0xD800, 0xDFFF, 0xE000, 0xFFFD, 0xFFFF, 0x1005B, 0x1005D, 0x1003A, 0x10FFFF, 0x110000, 0x110031, 0x11005B, 0x7FFF005B, math.MaxInt32}

var both = []bool{false, true}

var empty = api.Host{Kind: api.HostEmpty}

func domainOf(name string) api.Host { return api.Host{Kind: api.HostDomain, Name: name} }
func opaqueOf(name string) api.Host { return api.Host{Kind: api.HostOpaque, Name: name} }
func fourOf(x uint32) api.Host      { return api.Host{Kind: api.HostFour, Four: x} }

func sixOf(x [8]uint16) api.Host { return api.Host{Kind: api.HostSix, Six: x} }

// P14.1

func TestForbidden(t *testing.T) {
	if len(inNoHost) != 17 || len(inNoDomain) != 34+17 {
		t.Fatal(len(inNoHost), len(inNoDomain))
	}
	sample.Runes(-0x400, 0x110400, far, func(r rune) {
		for _, domain := range both {
			if got := Forbidden(r, domain); got != referenceForbidden(r, domain) {
				t.Errorf("Forbidden(%x, %v) = %v", r, domain, got)
			}
		}
	})
	for _, r := range "\x01\x1f%\x7f" {
		if Forbidden(r, false) || !Forbidden(r, true) {
			t.Errorf("%q is forbidden in a domain alone", r)
		}
	}
	for _, r := range "aZ09-._~!$&'()*+,;=\"`{}\u0080\u00e9\u2066" {
		if Forbidden(r, false) || Forbidden(r, true) {
			t.Errorf("%q is forbidden nowhere", r)
		}
	}
}

// shown: hosts, and what they are shown as.
var shown = []struct {
	h    api.Host
	want string
}{
	{domainOf("example.com"), "example.com"},
	{domainOf("xn--4ca"), "xn--4ca"},
	{domainOf("A b\xff[%"), "A b\xff[%"},
	{domainOf(""), ""},
	{opaqueOf("a%20b"), "a%20b"},
	{opaqueOf("\u00e9:["), "\u00e9:["},
	{opaqueOf(""), ""},
	{fourOf(0), "0.0.0.0"},
	{fourOf(2130706433), "127.0.0.1"},
	{fourOf(math.MaxUint32), "255.255.255.255"},
	{sixOf([8]uint16{}), "[::]"},
	{sixOf([8]uint16{7: 1}), "[::1]"},
	{sixOf([8]uint16{1, 0, 0, 2, 0, 0, 0, 3}), "[1:0:0:2::3]"},
	{sixOf([8]uint16{0xABCD, 2, 3, 4, 5, 6, 7, 8}), "[abcd:2:3:4:5:6:7:8]"},
	{api.Host{}, ""},
	{empty, ""},
	// the fields of other kinds are not looked at
	{api.Host{Name: "a", Four: 1, Six: [8]uint16{1}}, ""},
	{api.Host{Kind: api.HostEmpty, Name: "a", Four: 1, Six: [8]uint16{1}}, ""},
	{api.Host{Kind: api.HostDomain, Name: "a", Four: 1, Six: [8]uint16{1}}, "a"},
	{api.Host{Kind: api.HostFour, Name: "a", Four: 1, Six: [8]uint16{1}}, "0.0.0.1"},
	{api.Host{Kind: api.HostSix, Name: "a", Four: 1, Six: [8]uint16{1}}, "[1::]"},
	{api.Host{Kind: api.HostOpaque, Name: "a", Four: 1, Six: [8]uint16{1}}, "a"},
}

func TestShow(t *testing.T) {
	for _, c := range shown {
		if got := Show(c.h); got != c.want {
			t.Errorf("Show(%v) = %q, want %q", c.h, got, c.want)
		}
	}
	for kind := 6; kind < 256; kind++ {
		if got := Show(api.Host{Kind: uint8(kind), Name: "a", Four: 1, Six: [8]uint16{1}}); got != "" {
			t.Errorf("of kind %d: %q", kind, got)
		}
	}
}

// P14.2

// parsed: a text, for a special scheme or not, and the host that it is.
var parsed = []struct {
	s       string
	special bool
	want    api.Host
}{
	// the chapter's
	{"EXAMPLE.com", true, domainOf("example.com")},
	{"%41", true, domainOf("a")},
	{"0x7f.1", true, fourOf(2130706433)},
	{"0x7f.1", false, opaqueOf("0x7f.1")},
	{"[::1]", true, sixOf([8]uint16{7: 1})},
	{"[::1]", false, sixOf([8]uint16{7: 1})},
	{"a%b", false, opaqueOf("a%b")},
	// IPv6 addresses
	{"[::]", true, sixOf([8]uint16{})},
	{"[1:2:3:4:5:6:7:8]", false, sixOf([8]uint16{1, 2, 3, 4, 5, 6, 7, 8})},
	{"[ABCD::1.2.3.4]", true, sixOf([8]uint16{0: 0xABCD, 6: 258, 7: 772})},
	// opaque hosts: nothing is decoded, mapped, or read as a number
	{"", false, empty},
	{"a", false, opaqueOf("a")},
	{"A.B", false, opaqueOf("A.B")},
	{"127.0.0.1", false, opaqueOf("127.0.0.1")},
	{"1.2.3.256", false, opaqueOf("1.2.3.256")},
	{"%41%", false, opaqueOf("%41%")},
	{"a%20%5B", false, opaqueOf("a%20%5B")},
	{"!$&'()*+,;=\"`{}~", false, opaqueOf("!$&'()*+,;=\"`{}~")},
	{"xn--", false, opaqueOf("xn--")},
	{".", false, opaqueOf(".")},
	{"\u00e9", false, opaqueOf("%C3%A9")},
	{"e\u0301\u00ad", false, opaqueOf("e%CC%81%C2%AD")},
	{"a\x01\x08\x0b\x0c\x0e\x1f\x7f", false, opaqueOf("a%01%08%0B%0C%0E%1F%7F")},
	{"\ufffd\U0010ffff", false, opaqueOf("%EF%BF%BD%F4%8F%BF%BF")},
	// domains
	{"a", true, domainOf("a")},
	{".", true, domainOf(".")},
	{"a..b.", true, domainOf("a..b.")},
	{"-_~!$&'()*+,;=\"`{}", true, domainOf("-_~!$&'()*+,;=\"`{}")},
	{"B\u00fccher.de", true, domainOf("xn--bcher-kva.de")},
	{"XN--TDA", true, domainOf("xn--tda")},
	{"\uff21\u3002b", true, domainOf("a.b")},
	{"a\u00adb", true, domainOf("ab")},
	{"\u05d0", true, domainOf("xn--4db")},
	// percent codes are decoded once, as bytes of UTF-8
	{"%c3%BC", true, domainOf("xn--tda")},
	{"%C3%BC%2Eb", true, domainOf("xn--tda.b")},
	{"u%CC%88", true, domainOf("xn--tda")},
	{"%78n--tda", true, domainOf("xn--tda")},
	{"%EF%BC%A1", true, domainOf("a")},
	{"%C2%AD%61", true, domainOf("a")},
	// IPv4 addresses, also those that are decoded or mapped first
	{"1.2.3.4", true, fourOf(0x01020304)},
	{"1.2.3.4.", true, fourOf(0x01020304)},
	{"0", true, fourOf(0)},
	{"0X", true, fourOf(0)},
	{"4294967295", true, fourOf(math.MaxUint32)},
	{"%31.%32", true, fourOf(0x01000002)},
	{"\uff11\uff0e\uff12", true, fourOf(0x01000002)},
	{"%EF%BC%91", true, fourOf(1)},
	{"1\u00ad2", true, fourOf(12)},
	{"1\u30022\u3002", true, fourOf(0x01000002)},
	// what does not end in a number, though it has some
	{"1.2.3.4a", true, domainOf("1.2.3.4a")},
	{"1.2.3.a", true, domainOf("1.2.3.a")},
	{"1..", true, domainOf("1..")},
	{"256.256.a", true, domainOf("256.256.a")},
	{"0xg", true, domainOf("0xg")},
	{"-1", true, domainOf("-1")},
	{"\u06f1", true, domainOf("xn--emb")},
}

// refused: a text, for a special scheme or not, and its error.
var refused = []struct {
	s       string
	special bool
	want    api.Errno
}{
	// the chapter's
	{"a b", true, api.ErrHost},
	{"a b", false, api.ErrHost},
	{"a%b", true, api.ErrHost},
	{"", true, api.ErrHost},
	{"[::1", true, api.ErrSix},
	{"[::1", false, api.ErrSix},
	{"1.256.1", true, api.ErrFour},
	// brackets that are not those of an address
	{"[", true, api.ErrSix},
	{"[", false, api.ErrSix},
	{"[]", true, api.ErrSix},
	{"[]", false, api.ErrSix},
	{"[[", false, api.ErrSix},
	{"[]]", true, api.ErrSix},
	{"[[::1]]", true, api.ErrSix},
	{"[[::1]", true, api.ErrSix},
	{"[::1]]", true, api.ErrSix},
	{"[::1]a", false, api.ErrSix},
	{"[::1].", true, api.ErrSix},
	{"[::1] ", true, api.ErrSix},
	{"[::1]:80", true, api.ErrSix},
	{"[1:2]", true, api.ErrSix},
	{"[1.2.3.4]", true, api.ErrSix},
	{"[a]", false, api.ErrSix},
	{"[ ::1]", true, api.ErrSix},
	{"[::1%25eth0]", true, api.ErrSix},
	{"[::\uff11]", true, api.ErrSix},
	{"[::\u0131]", false, api.ErrSix},
	{"[\u00ad::1]", true, api.ErrSix},
	// neither percent codes nor wide forms are brackets, or in them
	{"[::%31]", true, api.ErrSix},
	{"[::1%5D", true, api.ErrSix},
	{"[::1\uff3d", true, api.ErrSix},
	{"%5B::1]", true, api.ErrHost},
	{"%5B::1%5D", true, api.ErrHost},
	{"\uff3b::1\uff3d", true, api.ErrHost},
	{"\uff3b::1\uff3d", false, api.ErrHost},
	{" [::1]", true, api.ErrHost},
	{" [::1]", false, api.ErrHost},
	{"::1", true, api.ErrHost},
	{"::1", false, api.ErrHost},
	{"]", true, api.ErrHost},
	{"a]", false, api.ErrHost},
	{"a[", false, api.ErrHost},
	{"a[::1]", true, api.ErrHost},
	// what is forbidden, also where it is decoded or mapped first
	{"a%20b", true, api.ErrHost},
	{"a%00", true, api.ErrHost},
	{"a%1fb", true, api.ErrHost},
	{"%7F", true, api.ErrHost},
	{"a\x01", true, api.ErrHost},
	{"%25", true, api.ErrHost},
	{"%2541", true, api.ErrHost},
	{"%", true, api.ErrHost},
	{"%4", true, api.ErrHost},
	{"%zz", true, api.ErrHost},
	{"\uff05\uff14\uff11", true, api.ErrHost},
	{"a\u00a0b", true, api.ErrHost},
	{"a\uff0fb", true, api.ErrHost},
	{"a\uff1ab", true, api.ErrHost},
	{"a%2Fb", true, api.ErrHost},
	{"a%EF%BC%9A80", true, api.ErrHost},
	// what is no domain
	{"\u00ad", true, api.ErrHost},
	{"%C2%AD", true, api.ErrHost},
	{"xn--", true, api.ErrHost},
	{"xn--a", true, api.ErrHost},
	{"xn--tda%20", true, api.ErrHost},
	{"\ue000", true, api.ErrHost},
	{"\u0301a", true, api.ErrHost},
	{"\u05d0-", true, api.ErrHost},
	{"\u05d0.1", true, api.ErrHost},
	{"a\u200db", true, api.ErrHost},
	// bytes that are no UTF-8
	{"%ff", true, api.ErrHost},
	{"%C3", true, api.ErrHost},
	{"%C3\u00bc", true, api.ErrHost},
	{"%ED%A0%80", true, api.ErrHost},
	{"%EF%BF%BD", true, api.ErrHost},
	// what ends in a number, and is no address
	{"1.2.3.256", true, api.ErrFour},
	{"1.2.3.4.5", true, api.ErrFour},
	{"a.1", true, api.ErrFour},
	{"a.1.", true, api.ErrFour},
	{"1..2", true, api.ErrFour},
	{".1", true, api.ErrFour},
	{"08", true, api.ErrFour},
	{"a.0x", true, api.ErrFour},
	{"4294967296", true, api.ErrFour},
	{"a.%31", true, api.ErrFour},
	{"a\uff0e\uff11", true, api.ErrFour},
	{"\u00fc.1", true, api.ErrFour},
	// ErrHost before ErrFour
	{"a b.1", true, api.ErrHost},
	{"%25.1", true, api.ErrHost},
	{"a:1.256", true, api.ErrHost},
	{"xn--.1", true, api.ErrHost},
}

func wantParsed(t *testing.T, l []rune, special bool, want api.Host, e api.Errno) {
	t.Helper()
	if h, err := Parse(l, special); h != want || err != e {
		t.Errorf("Parse(%q, %v) = %v, %d, want %v, %d", string(l), special, h, err, want, e)
	}
}

func TestParsed(t *testing.T) {
	for _, c := range parsed {
		wantParsed(t, []rune(c.s), c.special, c.want, api.OK)
		byReference(t, []rune(c.s))
	}
	wantParsed(t, nil, false, empty, api.OK)
	wantParsed(t, []rune{}, false, empty, api.OK)
}

func TestRefused(t *testing.T) {
	for _, c := range refused {
		wantParsed(t, []rune(c.s), c.special, api.Host{}, c.want)
		byReference(t, []rune(c.s))
	}
	wantParsed(t, nil, true, api.Host{}, api.ErrHost)
}

// TestFar: what is no scalar is like U+FFFD, which no domain has, and no address.
func TestFar(t *testing.T) {
	for _, r := range []rune{-1, -0x5B, math.MinInt32, math.MinInt32 + 0x5B, 0xD800, 0xDFFF, 0x110000, 0x110031, 0x7FFF005B, math.MaxInt32} {
		wantParsed(t, []rune{r}, false, opaqueOf("%EF%BF%BD"), api.OK)
		wantParsed(t, []rune{'a', r, '.'}, false, opaqueOf("a%EF%BF%BD."), api.OK)
		wantParsed(t, []rune{r, '[', ']'}, false, api.Host{}, api.ErrHost)
		wantParsed(t, []rune{'a', r}, true, api.Host{}, api.ErrHost)
		wantParsed(t, []rune{r, '.', '1'}, true, api.Host{}, api.ErrHost)
		for _, special := range both {
			wantParsed(t, []rune{'[', r, ']'}, special, api.Host{}, api.ErrSix)
			wantParsed(t, []rune{'[', ':', ':', r, ']'}, special, api.Host{}, api.ErrSix)
			wantParsed(t, []rune{'[', ':', ':', r}, special, api.Host{}, api.ErrSix)
		}
	}
}

// many: as much of a text as is enough to be long.
const many = 1 << 20

// TestLong: a domain has the limit of domains, which is asked of what is decoded; the others have none.
func TestLong(t *testing.T) {
	as := strings.Repeat("a", 2000)
	wantParsed(t, []rune(as), true, domainOf(as), api.OK)
	wantParsed(t, []rune(strings.Repeat("%41", 2000)), true, domainOf(as), api.OK)
	wantParsed(t, []rune(as+"a"), true, api.Host{}, api.ErrHost)
	wantParsed(t, []rune(strings.Repeat("%41", 2001)), true, api.Host{}, api.ErrHost)
	wantParsed(t, []rune(strings.Repeat("0", 1999)+"1"), true, fourOf(1), api.OK)
	wantParsed(t, []rune(strings.Repeat("0", 2000)+"1"), true, api.Host{}, api.ErrHost)
	wantParsed(t, []rune(strings.Repeat("1.", 1000)), true, api.Host{}, api.ErrFour)
	for _, one := range []string{"a", "1", ".", "%", "%41", "\u00fc", ":", "[", "]", " "} {
		long := strings.Repeat(one, many)
		for _, special := range both {
			for _, s := range []string{"[" + long, "[" + long + "]", "[::1]" + long, "[::" + long + "]"} {
				wantParsed(t, []rune(s), special, api.Host{}, api.ErrSix)
			}
			wantParsed(t, []rune(long+" "), special, api.Host{}, wantOf(one))
		}
	}
	long := strings.Repeat("a%", many)
	wantParsed(t, []rune(long), false, opaqueOf(long), api.OK)
	wantParsed(t, []rune(strings.Repeat("\u00fc", many)), false, opaqueOf(strings.Repeat("%C3%BC", many)), api.OK)
}

// wantOf returns the error of what begins so, and is no host.
func wantOf(s string) api.Errno {
	if s[0] == '[' {
		return api.ErrSix
	}
	return api.ErrHost
}

// byReference compares what is parsed from l with the chapter's, and returns
// how often there is an error.
func byReference(t *testing.T, l []rune) int {
	t.Helper()
	errors := 0
	for _, special := range both {
		want, wantError := referenceParse(l, special)
		h, e := Parse(l, special)
		if h != want || e != wantError {
			t.Fatalf("Parse(%q, %v) = %v, %d, want %v, %d", string(l), special, h, e, want, wantError)
		}
		if e == api.OK {
			wantConsequences(t, h, special)
		} else {
			errors++
		}
	}
	return errors
}

func TestEachRuneByReference(t *testing.T) {
	sample.Runes(-0x100, 0x10FFF, far, func(r rune) {
		for _, l := range [][]rune{{r}, {r, '1'}, {'[', ':', ':', r, ']'}, {r, ':', ':', ']'}} {
			byReference(t, l)
		}
	})
}

// TestEachCodeByReference: each byte as a percent code, alone and in front of others.
func TestEachCodeByReference(t *testing.T) {
	const digits = "0123456789abcdefABCDEFgG"
	for _, a := range digits {
		for _, b := range digits {
			code := "%" + string(a) + string(b)
			for _, s := range []string{code, "a" + code, code + "1", code + "%BC", code + "\u00bc", "%" + code, "%E2%80" + code, "[" + code, "a." + code, "[::" + code + "]"} {
				byReference(t, []rune(s))
			}
		}
	}
}

// pieces: what hosts are put together of.
var pieces = []string{
	"a", "A", "1", "0x", "256", ".", "-", "%", "%41", "%31", "%2e", "%20", "%C3", "%BC", " ", "[", "]", "::", ":", "@",
	"\u00fc", "u\u0308", "\u00ad", "\u05d0", "\uff11", "\uff21", "\u3002", "\u00a0", "\ue000", "xn--", "tda", "\x01", "\x7f", "\ufffd",
}

func TestPiecesByReference(t *testing.T) {
	see := func(l []string) { byReference(t, []rune(strings.Join(l, ""))) }
	sample.Lists(3, pieces, see)
	sample.Lists(6, []string{"a", "1", ".", "%31", "255", "0x"}, see)
	sample.Lists(6, []string{"[", "]", ":", "1", "::"}, see)
}

func TestNoiseByReference(t *testing.T) {
	next := sample.Noise(14)
	const times = 50000
	errors := 0
	for i := range times {
		of := [][]string{pieces, pieces[:12], {"1", ".", "2", "0x", "0", "%33", "\uff14"}, {"b", ".", "-", "%62", "B", "\u00e4", "1"}}[i%4]
		errors += byReference(t, []rune(strings.Join(sample.Pick(next, next(12), of), "")))
	}
	if errors < times/4 || errors > 2*times-times/4 {
		t.Errorf("%d of %d are no hosts", errors, 2*times)
	}
}

// P14.3

// rightly: hosts, and whether they are right for a scheme that is not special, and for a special one.
var rightly = []struct {
	h              api.Host
	other, special bool
}{
	{api.Host{}, true, false},
	{empty, true, false},
	{domainOf("a"), false, true},
	{domainOf("a..b."), false, true},
	{domainOf("xn--tda"), false, true},
	{domainOf("1.a"), false, true},
	{opaqueOf("a"), true, false},
	{opaqueOf("A%20\""), true, false},
	{opaqueOf("1.2.3.4"), true, false},
	{opaqueOf("%C3%BC%c3%"), true, false},
	{fourOf(0), false, true},
	{fourOf(math.MaxUint32), false, true},
	{sixOf([8]uint16{}), true, true},
	{sixOf([8]uint16{1, 0, 0, 2, 0, 0, 0, 3}), true, true},
	// names that no domain has
	{domainOf(""), false, false},
	{domainOf("A"), false, false},
	{domainOf("a b"), false, false},
	{domainOf("%41"), false, false},
	{domainOf("%61"), false, false},
	{domainOf("a%"), false, false},
	{domainOf("\u00fc"), false, false},
	{domainOf("\xff"), false, false},
	{domainOf("\u3002"), false, false},
	{domainOf("xn--"), false, false},
	{domainOf("xn--a"), false, false},
	{domainOf("XN--TDA"), false, false},
	{domainOf("1"), false, false},
	{domainOf("1.2.3.4"), false, false},
	{domainOf("a.1"), false, false},
	{domainOf("[::1]"), false, false},
	{domainOf(strings.Repeat("a", 2000)), false, true},
	{domainOf(strings.Repeat("a", 2001)), false, false},
	// names that no opaque host has
	{opaqueOf(""), false, false},
	{opaqueOf("a b"), false, false},
	{opaqueOf("a:b"), false, false},
	{opaqueOf("\u00fc"), false, false},
	{opaqueOf("\xff"), false, false},
	{opaqueOf("\ufffd"), false, false},
	{opaqueOf("a\x01"), false, false},
	{opaqueOf("\x7f"), false, false},
	{opaqueOf("[::1]"), false, false},
	{opaqueOf("["), false, false},
	// fields of other kinds
	{api.Host{Name: "a"}, false, false},
	{api.Host{Four: 1}, false, false},
	{api.Host{Six: [8]uint16{7: 1}}, false, false},
	{api.Host{Kind: api.HostEmpty, Name: "a"}, false, false},
	{api.Host{Kind: api.HostEmpty, Four: 1}, false, false},
	{api.Host{Kind: api.HostEmpty, Six: [8]uint16{1}}, false, false},
	{api.Host{Kind: api.HostDomain, Name: "a", Four: 1}, false, false},
	{api.Host{Kind: api.HostDomain, Name: "a", Six: [8]uint16{1}}, false, false},
	{api.Host{Kind: api.HostOpaque, Name: "a", Four: 1}, false, false},
	{api.Host{Kind: api.HostOpaque, Name: "a", Six: [8]uint16{1}}, false, false},
	{api.Host{Kind: api.HostFour, Four: 1, Name: "0.0.0.1"}, false, false},
	{api.Host{Kind: api.HostFour, Four: 1, Six: [8]uint16{1}}, false, false},
	{api.Host{Kind: api.HostSix, Six: [8]uint16{1}, Name: "[1::]"}, false, false},
	{api.Host{Kind: api.HostSix, Six: [8]uint16{1}, Four: 1}, false, false},
}

func TestRight(t *testing.T) {
	for _, c := range rightly {
		if got := Right(c.h, false); got != c.other {
			t.Errorf("%v, not special: %v", c.h, got)
		}
		if got := Right(c.h, true); got != c.special {
			t.Errorf("%v, special: %v", c.h, got)
		}
	}
}

// TestRightByReference: names, and addresses, with kinds that they are of, or not.
func TestRightByReference(t *testing.T) {
	names := []string{"", "a", "A", "a b", "1", "a.1", "1.2.3.4", "0.0.0.1", "[::1]", "[::]", "\u00fc", "\xff", "%C3%BC", "xn--tda", "xn--a", "%41", "a%", "a\x01", "."}
	for _, name := range names {
		for _, x := range []uint32{0, 1, 0x01020304, math.MaxUint32} {
			for _, six := range [][8]uint16{{}, {7: 1}, {1, 2, 3, 4, 5, 6, 7, 8}} {
				for kind := range 256 {
					h := api.Host{Kind: uint8(kind), Name: name, Four: x, Six: six}
					for _, special := range both {
						if got := Right(h, special); got != referenceRight(h, special) {
							t.Errorf("Right(%v, %v) = %v", h, special, got)
						}
					}
				}
			}
		}
	}
}

// P14.4

// maxDomain: a domain that is parsed may be longer than this, and is not parsed again then.
const maxDomain = 2000

// wantConsequences: h was parsed.
func wantConsequences(t *testing.T, h api.Host, special bool) {
	t.Helper()
	again, e := Parse(utf.Decode([]byte(Show(h))), special)
	if again != h || e != api.OK || !Right(h, special) {
		t.Fatalf("%v, %v: shown as %q, which is %v, %d", h, special, Show(h), again, e)
	}
	if h.Kind != api.HostDomain {
		return
	}
	if h.Name == "" || four.Ends(h.Name) || strings.ToLower(h.Name) != h.Name {
		t.Fatalf("the domain %q", h.Name)
	}
	for _, c := range []byte(h.Name) {
		if c >= 0x80 || slices.Contains(inNoDomain, rune(c)) {
			t.Fatalf("the domain %q", h.Name)
		}
	}
}

// TestRightAddresses: each address is right, whatever it is.
func TestRightAddresses(t *testing.T) {
	next := sample.Noise(41)
	for range 20000 {
		x := uint32(next(1<<16))<<16 | uint32(next(1<<16))
		wantConsequences(t, fourOf(x), true)
		var six [8]uint16
		for i := range six {
			six[i] = uint16(next(1<<16) * next(2))
		}
		for _, special := range both {
			wantConsequences(t, sixOf(six), special)
		}
	}
}

// TestTooLongForAgain: what a domain is as ASCII may be beyond the limit of
// domains; then it is no domain, and so it is not right.
func TestTooLongForAgain(t *testing.T) {
	l := slices.Repeat([]rune{0x4E00, '.'}, maxDomain/2)
	long := domainOf(strings.Repeat("xn--4gq.", maxDomain/2))
	wantParsed(t, l, true, long, api.OK)
	wantParsed(t, []rune(long.Name), true, api.Host{}, api.ErrHost)
	if Right(long, true) {
		t.Error("right")
	}
	short := domainOf(strings.Repeat("xn--4gq.", maxDomain/8))
	wantParsed(t, l[:maxDomain/4], true, short, api.OK)
	wantConsequences(t, short, true)
}

// R3

func TestArgumentIsLeft(t *testing.T) {
	for _, s := range []string{"", "a", "EXAMPLE.com", "%41\u00fc", "[::1]", "[::1", "1.2", "a b", "u\u0308.1"} {
		for _, special := range both {
			l := []rune(s)
			room := slices.Concat(l, []rune{']', 0x301, ' '})
			was := slices.Clone(room)
			// nor is what stands behind its end looked at
			want, e := Parse(l, special)
			wantParsed(t, room[:len(l)], special, want, e)
			if !slices.Equal(room, was) {
				t.Errorf("%x has become %x", was, room)
			}
		}
	}
}
