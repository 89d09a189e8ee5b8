package domain

import (
	"math"
	"slices"
	"strings"
	"testing"

	"fascia/api"
	"fascia/norm"
	"fascia/puny"
	"fascia/remap"
	"fascia/sample"
)

// far: numbers that are no scalar, those at the ends of what there is, and those that are a letter or a dot in their lower bits.
var far = []rune{-1, -0x2E, -0x61, math.MinInt32, math.MinInt32 + 0x2E, math.MinInt32 + 0x61, 0xD800, 0xDFFF, 0xE000, 0xFFFF, 0x1002E, 0x10061, 0x105D0, 0x10FFFF, 0x110000, 0x110061, math.MaxInt32}

// code returns the A-label that stands for l, which need not be right.
func code(l ...rune) string {
	text, e := puny.Encode(l)
	if e != api.OK {
		panic("no scalars")
	}
	return "xn--" + text
}

// pieces: what domains are put together of. Some go together as one label.
var pieces = []string{
	"a", "1", "-", ".", "xn--", "A", "\u00fc", "\u05d0", "\u0301", "\u00ad",
	"xn--tda", "xn--4db", "xn--a", code(0x5D0, '-'), code('1', 0xFC), code('u', 0x308),
}

// joined calls see with all domains of up to n of these pieces.
func joined(n int, of []string, see func([]rune)) {
	sample.Lists(n, of, func(l []string) { see([]rune(strings.Join(l, ""))) })
}

// edges: of each kind some that matter to one clause or another.
var edges = []rune{'a', 'l', '1', '-', '.', ' ', 0xB7, 0x301, 0x3B1, 0x430, 0x5D0, 0x627, 0x661, 0x6F1, 0x94D, 0x200C, 0x200D, 0x3042, 0x30FB, 0x4E00, 0xAC00, 0xE000, 0xFF11, -1}

// noisy calls see with lists of a few of these, and with ones whose labels are right.
func noisy(seed uint64, times int, see func([]rune)) {
	next := sample.Noise(seed)
	dotted := []rune{'a', 'B', 'e', 0xC9, 0xE9, 0x301, 0x327, 0xFF23, '1', '.', '.', 0x3002, 0xAD, 0x4E00, 0xAC01, 0x1D7, 0x391, 0x2329, 0x10000}
	right := []rune{0x5D0, 0x5D1, 0x627, 0x628, '1', '2', '.', 0x5B7, 0x200C}
	for i := range times {
		of := [][]rune{dotted, dotted[:len(dotted)-1], right, edges}[i%4]
		see(sample.Pick(next, next(30), sample.Pick(next, 1+next(8), of)))
	}
}

// domains: a domain, what it is as ASCII, or its error.
var domains = []struct {
	l    []rune
	want string
	e    api.Errno
}{
	// the chapter's
	{[]rune{'B', 0xFC, 'c', 'h', 'e', 'r', '.', 'd', 'e'}, "xn--bcher-kva.de", api.OK},
	{[]rune("a..b"), "a..b", api.OK},
	{[]rune{0xE000}, "", api.ErrMap},
	{[]rune("xn--a"), "", api.ErrLabel},
	{[]rune("xn--99999999"), "", api.ErrPuny},
	{[]rune("xn--"), "", api.ErrPuny},
	{[]rune{0x301, 0x61}, "", api.ErrLabel},
	{[]rune{0x5D0, 0x2D}, "", api.ErrDomain},
	{[]rune{0x5D0, 0x2E, 0x31}, "", api.ErrDomain},
	{nil, "", api.ErrDomain},
	{[]rune{}, "", api.ErrDomain},
	{[]rune{0xAD}, "", api.ErrDomain},
	// ASCII as it is: nothing is asked of hyphens, nor of what a host may not have
	{[]rune("example.com"), "example.com", api.OK},
	{[]rune("-a-.b--c.ab--c"), "-a-.b--c.ab--c", api.OK},
	{[]rune("a b/c@\x00\x7f:%41[]"), "a b/c@\x00\x7f:%41[]", api.OK},
	{[]rune("1.2.3"), "1.2.3", api.OK},
	{[]rune("xn-a.xn-.xn.x"), "xn-a.xn-.xn.x", api.OK},
	{[]rune("axn--tda"), "axn--tda", api.OK},
	// dots: of all kinds, and labels that are empty
	{[]rune("."), ".", api.OK},
	{[]rune("..."), "...", api.OK},
	{[]rune(".a."), ".a.", api.OK},
	{[]rune("a.\u00fc."), "a.xn--tda.", api.OK},
	{[]rune(".\u4e00"), ".xn--4gq", api.OK},
	{[]rune("a\u3002b\uff0ec"), "a.b.c", api.OK},
	{[]rune("a\u2026b"), "a...b", api.OK},
	{[]rune{0x2026}, "...", api.OK},
	{[]rune{0xAD, '.', 0x200B}, ".", api.OK},
	// mapped, then normalized: also where something ignored, or a capital, was between
	{[]rune("EXAMPLE.Com"), "example.com", api.OK},
	{[]rune("\uff21\uff11\uff5a"), "a1z", api.OK},
	{[]rune("U\u0308"), "xn--tda", api.OK},
	{[]rune("u\u00ad\u0308"), "xn--tda", api.OK},
	{[]rune("\u00dc"), "xn--tda", api.OK},
	{[]rune("U\u0308\u0301"), code(0x1D8), api.OK},
	{[]rune("c\u0301\u0327"), code(0xE7, 0x301), api.OK},
	{[]rune("\u1112\u1161\u11ab"), code(0xD55C), api.OK},
	{[]rune{0x2329}, code(0x3008), api.OK},
	{[]rune("fa\u00df.\u03a3\u03c2"), code('f', 'a', 0xDF) + "." + code(0x3C3, 0x3C2), api.OK},
	{[]rune("a.\u0301b"), "", api.ErrLabel}, // nothing is composed with a dot
	{[]rune{0xAD, 0x301}, "", api.ErrLabel},
	// A-labels, also those that become one
	{[]rune("xn--tda"), "xn--tda", api.OK},
	{[]rune("XN--TDA.Xn--4Gq"), "xn--tda.xn--4gq", api.OK},
	{[]rune("\uff58n-\u00ad-tda"), "xn--tda", api.OK},
	{[]rune("xn--bcher-kva"), "xn--bcher-kva", api.OK},
	{[]rune("xn--" + "xn---3ra"), "xn--xn---3ra", api.OK}, // it stands for what begins so, and is not ASCII
	{[]rune("xn--\u00fc"), "xn--xn---3ra", api.OK},
	{[]rune(code('-', 0xFC)), code('-', 0xFC), api.OK},
	{[]rune(code('a', 'b', '-', '-', 0xFC, '-')), code('a', 'b', '-', '-', 0xFC, '-'), api.OK},
	{[]rune(code('a', ' ', 0xFC)), code('a', ' ', 0xFC), api.OK},
	// that stand for nothing, or for ASCII
	{[]rune("xn---"), "", api.ErrPuny},
	{[]rune("xn--abc-"), "", api.ErrPuny},
	{[]rune("xn--a-"), "", api.ErrPuny},
	{[]rune("xn--\x7f-"), "", api.ErrPuny},
	{[]rune("xn--abc"), "", api.ErrLabel},
	{[]rune("xn--a9999999"), "", api.ErrPuny},
	{[]rune("xn--tda "), "", api.ErrPuny},
	{[]rune("xn--_tda"), "", api.ErrPuny},
	// or for what is not right
	{[]rune(code(0xDC)), "", api.ErrLabel},
	{[]rune(code(0x80)), "", api.ErrLabel},
	{[]rune(code(0xAD)), "", api.ErrLabel},
	{[]rune(code(0xE000)), "", api.ErrLabel},
	{[]rune(code(0x10FFFF)), "", api.ErrLabel},
	{[]rune(code('u', 0x308)), "", api.ErrLabel},
	{[]rune(code(0xFC, 0x301)), "", api.ErrLabel},
	{[]rune(code(0x301, 0xFC)), "", api.ErrLabel},
	{[]rune(code(0xFC, '.', 0xFC)), "", api.ErrPuny}, // its dot parts it
	{[]rune(code(0x3002)), "", api.ErrLabel},
	{[]rune(code('a', 0xB7, 0xFC)), "", api.ErrLabel},
	{[]rune(code(0x200D)), "", api.ErrLabel},
	{[]rune(code(0x661, 0x6F1)), "", api.ErrLabel},
	{[]rune(code('l', 0xB7, 'l')), "xn--ll-0ea", api.OK},
	{[]rune(code(0x915, 0x94D, 0x200D)), "xn--11b6iy14e", api.OK},
	// other labels that are not right
	{[]rune("a\u200db"), "", api.ErrLabel},
	{[]rune("a\u00b7l"), "", api.ErrLabel},
	{[]rune("l\u00b7l"), "xn--ll-0ea", api.OK},
	{[]rune("L\u00b7L"), "xn--ll-0ea", api.OK},
	{[]rune{0x661, 0x6F1}, "", api.ErrLabel},
	{[]rune{0x903}, "", api.ErrLabel},
	{[]rune("\u00fc-.-\u00fc.ab--\u00fc"), "xn----dha.xn----eha.xn--ab---3ra", api.OK}, // hyphens are not asked for
	{[]rune{'p', 'p', 'l', 'e', 0x430}, "xn--pple-83d", api.OK},                        // nor scripts
	{[]rune{'1', 0x967}, code('1', 0x967), api.OK},                                     // nor systems of digits
	// of several labels the first one, whichever error it is
	{[]rune("a.xn--.\u0301"), "", api.ErrPuny},
	{[]rune("a.\u0301.xn--"), "", api.ErrLabel},
	{[]rune("xn--a.xn--"), "", api.ErrLabel},
	{[]rune("xn--.xn--a"), "", api.ErrPuny},
	{[]rune("..xn--"), "", api.ErrPuny},
	// a bad one before all labels, and these before the bidi rule
	{[]rune{'x', 'n', '-', '-', '.', 0x301, '.', 0xE000}, "", api.ErrMap},
	{[]rune{'x', 'n', '-', '-', 0x80}, "", api.ErrMap},
	{[]rune{0x5D0, '-', '.', 0x301}, "", api.ErrLabel},
	{[]rune("\u05d0-.xn--"), "", api.ErrPuny},
	{[]rune("\u202ea"), "", api.ErrMap},
	{[]rune{0xFFFD}, "", api.ErrMap},
	{[]rune{0x378}, "", api.ErrMap},
	// the bidi rule: every label that is not empty, if one is bidi, wherever it stands
	{[]rune{0x5D0}, "xn--4db", api.OK},
	{[]rune("\u05d0.a"), "xn--4db.a", api.OK},
	{[]rune("\u05d0..a."), "xn--4db..a.", api.OK},
	{[]rune(".\u05d0"), ".xn--4db", api.OK},
	{[]rune("\u05d0.1a"), "", api.ErrDomain},
	{[]rune("1a.\u05d0"), "", api.ErrDomain},
	{[]rune("a-.\u05d0"), "", api.ErrDomain},
	{[]rune("a b.\u05d0"), "", api.ErrDomain},
	{[]rune("\u05d0a"), "", api.ErrDomain},
	{[]rune("\u05d01.\u06271"), code(0x5D0, '1') + "." + code(0x627, '1'), api.OK},
	{[]rune{0x627, '1', 0x661}, "", api.ErrDomain},
	{[]rune{0x661}, "", api.ErrDomain},
	{[]rune("a.\u0661"), "", api.ErrDomain},
	{[]rune("1.\u00fc-.a b"), "1.xn----dha.a b", api.OK}, // none is bidi
	{[]rune{0x6F1}, code(0x6F1), api.OK},                 // these digits are not, either
	{[]rune("\u05d0.\u00fc-"), "", api.ErrDomain},
	{[]rune("\u05d0.\u00fc"), "xn--4db.xn--tda", api.OK},
	// of an A-label, what it stands for
	{[]rune("xn--4db"), "xn--4db", api.OK},
	{[]rune("xn--4db.a"), "xn--4db.a", api.OK},
	{[]rune("xn--4db.1"), "", api.ErrDomain},
	{[]rune("1.xn--4db"), "", api.ErrDomain},
	{[]rune(code(0x5D0, '-')), "", api.ErrDomain},
	{[]rune(code(0x5D0, 'a')), "", api.ErrDomain},
	{[]rune(code('1', 0x5D0)), "", api.ErrDomain},
	{[]rune(code('1', 0xFC)), code('1', 0xFC), api.OK},
	{[]rune("\u05d0." + code('1', 0xFC)), "", api.ErrDomain},
	{[]rune(code('1', 0xFC) + ".xn--4db"), "", api.ErrDomain},
	{[]rune("xn--4db.xn--tda"), "xn--4db.xn--tda", api.OK},
}

// P11.1

func wantASCII(t *testing.T, l []rune, want string, e api.Errno) {
	t.Helper()
	if got, err := ToASCII(l); got != want || err != e {
		t.Errorf("ToASCII(%x) = %q, %d, want %q, %d", l, got, err, want, e)
	}
}

func TestToASCII(t *testing.T) {
	for _, c := range domains {
		wantASCII(t, c.l, c.want, c.e)
	}
}

func TestToASCIIFar(t *testing.T) {
	for _, r := range far {
		for _, l := range [][]rune{{r}, {'a', r}, {r, '.'}, {'x', 'n', '-', '-', '.', r}, {0x5D0, '-', '.', r, 0x301}} {
			wantASCII(t, l, "", api.ErrMap)
		}
	}
}

func wantReference(t *testing.T, l []rune) {
	t.Helper()
	got, e := ToASCII(l)
	if want, wantE := referenceToASCII(l); got != want || e != wantE {
		t.Fatalf("ToASCII(%x) = %q, %d, want %q, %d", l, got, e, want, wantE)
	}
}

func TestToASCIIByReference(t *testing.T) {
	see := func(l []rune) { wantReference(t, l) }
	joined(3, pieces, see)
	joined(5, []string{"a", ".", "\u05d0", "-", "xn--4db"}, see)
	sample.Lists(2, edges, see)
	noisy(11, 20000, see)
}

func TestToASCIIEachRune(t *testing.T) {
	sample.Runes(-0x100, 0x10FFF, far, func(r rune) {
		wantReference(t, []rune{r})
		wantReference(t, []rune{0x5D0, '.', r})
	})
}

// TestLength: what is given counts, before anything else is asked, and not what it becomes.
func TestLength(t *testing.T) {
	for _, r := range []rune{'a', 'A', '.', 0xAD, 0x2026, 0x301, 0x4E00, 0x5D0, 0xE000, -1} {
		wantASCII(t, slices.Repeat([]rune{r}, 2001), "", api.ErrLength)
		wantASCII(t, slices.Repeat([]rune{r}, 100000), "", api.ErrLength)
		l := slices.Repeat([]rune{r}, 2000)
		want, e := referenceToASCII(l)
		if e == api.ErrLength {
			t.Errorf("%x 2000 times is too long", r)
		}
		wantASCII(t, l, want, e)
	}
	wantASCII(t, slices.Repeat([]rune{0x2026}, 2000), strings.Repeat(".", 6000), api.OK)
	wantASCII(t, slices.Repeat([]rune{0x4E00, '.'}, 1000), strings.Repeat("xn--4gq.", 1000), api.OK)
	wantASCII(t, slices.Concat([]rune("xn--."), slices.Repeat([]rune{'a'}, 1995)), "", api.ErrPuny)
}

// TestLongLabels: as many code points in one label as there may be, also as what an A-label stands for.
func TestLongLabels(t *testing.T) {
	l := make([]rune, 2000)
	for i := range l {
		l[i] = 0x4E00 + rune(i*37%0x5000)
	}
	wantASCII(t, l, code(l...), api.OK)
	same := code(slices.Repeat([]rune{0x4E00}, 1990)...)
	if len(same) != 1996 {
		t.Fatal(len(same))
	}
	wantASCII(t, []rune(same+".com"), same+".com", api.OK)
	if l, e := ToUnicode(same); e != api.OK || len(l) != 1990 {
		t.Error(len(l), e)
	}
}

// labelTexts: a label of ASCII, its code points, or its error.
var labelTexts = []struct {
	s    string
	want []rune
	e    api.Errno
}{
	// the chapter's
	{"xn--4ca", []rune{0xE4}, api.OK},
	{"abc", []rune("abc"), api.OK},
	{"A", nil, api.ErrLabel},
	// no A-label: its bytes, whatever else is in it
	{"", nil, api.OK},
	{"a", []rune("a"), api.OK},
	{"-ab--c-", []rune("-ab--c-"), api.OK},
	{"a b/c@:%[\x00\x1f\x7f", []rune("a b/c@:%[\x00\x1f\x7f"), api.OK},
	{"@[`{", []rune("@[`{"), api.OK},
	{"az09", []rune("az09"), api.OK},
	{"xn-", []rune("xn-"), api.OK},
	{"xn-a", []rune("xn-a"), api.OK},
	{"axn--tda", []rune("axn--tda"), api.OK},
	{"1-", []rune("1-"), api.OK},
	// an A-label
	{"xn--bcher-kva", []rune("b\u00fccher"), api.OK},
	{"xn--4db", []rune{0x5D0}, api.OK},
	{"xn--xn---3ra", []rune("xn--\u00fc"), api.OK},
	{"xn--ab---3ra", []rune("ab--\u00fc"), api.OK},
	{"xn--pple-83d", []rune("pple\u0430"), api.OK},
	{"xn--11b6iy14e", []rune{0x915, 0x94D, 0x200D}, api.OK},
	{code('1', 0xFC, '-'), []rune{'1', 0xFC, '-'}, api.OK}, // the bidi rule is for what is bidi alone
	{code('a', ' ', 0xFC), []rune{'a', ' ', 0xFC}, api.OK},
	{code(0x5D0, '1'), []rune{0x5D0, '1'}, api.OK},
	// what it may not have, A-label or not
	{"Z", nil, api.ErrLabel},
	{"aBc", nil, api.ErrLabel},
	{".", nil, api.ErrLabel},
	{"a.", nil, api.ErrLabel},
	{"a.b", nil, api.ErrLabel},
	{"a\x80", nil, api.ErrLabel},
	{"\xff", nil, api.ErrLabel},
	{"\u00fc", nil, api.ErrLabel},
	{"XN--TDA", nil, api.ErrLabel},
	{"xn--tDa", nil, api.ErrLabel},
	{"xn--tda.", nil, api.ErrLabel},
	{"xn--tda\xfc", nil, api.ErrLabel},
	{"xn--.", nil, api.ErrLabel},
	{"xn--A", nil, api.ErrLabel},
	{"xn--\u00fc", nil, api.ErrLabel},
	// it stands for nothing, or for ASCII
	{"xn--", nil, api.ErrPuny},
	{"xn---", nil, api.ErrPuny},
	{"xn--99999999", nil, api.ErrPuny},
	{"xn--abc-", nil, api.ErrPuny},
	{"xn--tda ", nil, api.ErrPuny},
	// for what is not right
	{"xn--a", nil, api.ErrLabel},
	{code(0xDC), nil, api.ErrLabel},
	{code('u', 0x308), nil, api.ErrLabel},
	{code(0x301, 0xFC), nil, api.ErrLabel},
	{code(0xFC, '.'), nil, api.ErrLabel},
	{code(0xE000), nil, api.ErrLabel},
	{code(0x200D), nil, api.ErrLabel},
	{code('a', 0xB7, 0xFC), nil, api.ErrLabel},
	{code(0x661, 0x6F1), nil, api.ErrLabel},
	{code(0x5D0, '-', 0xE000), nil, api.ErrLabel},
	// for what violates the bidi rule
	{code(0x5D0, '-'), nil, api.ErrDomain},
	{code(0x5D0, 'a'), nil, api.ErrDomain},
	{code('a', 0x5D0), nil, api.ErrDomain},
	{code('1', 0x5D0), nil, api.ErrDomain},
	{code(0x661), nil, api.ErrDomain},
	{code(0x627, '1', 0x661), nil, api.ErrDomain},
}

// P11.2

func TestToUnicode(t *testing.T) {
	for _, c := range labelTexts {
		if got, e := ToUnicode(c.s); e != c.e || !slices.Equal(got, c.want) {
			t.Errorf("ToUnicode(%q) = %x, %d, want %x, %d", c.s, got, e, c.want, c.e)
		}
	}
}

func wantUnicode(t *testing.T, s string) {
	t.Helper()
	got, e := ToUnicode(s)
	if want, wantE := referenceToUnicode(s); e != wantE || !slices.Equal(got, want) {
		t.Fatalf("ToUnicode(%q) = %x, %d, want %x, %d", s, got, e, want, wantE)
	}
}

func TestToUnicodeByReference(t *testing.T) {
	sample.Lists(3, pieces, func(l []string) { wantUnicode(t, strings.Join(l, "")) })
	sample.Lists(4, []byte("ab9-z0A. "), func(b []byte) { wantUnicode(t, "xn--"+string(b)) })
	for a := range 256 {
		for b := range 256 {
			wantUnicode(t, string([]byte{byte(a), byte(b)}))
		}
		wantUnicode(t, "xn--"+string([]byte{byte(a)}))
		wantUnicode(t, "xn--tda"+string([]byte{byte(a)}))
	}
	noisy(12, 20000, func(l []rune) {
		if text, e := puny.Encode(l); e == api.OK {
			wantUnicode(t, "xn--"+text)
		}
	})
}

func TestToUnicodeEachRune(t *testing.T) {
	sample.Runes(0x80, 0x10FFF, nil, func(r rune) {
		for _, l := range [][]rune{{r}, {'a', r}, {0x5D0, r}} {
			if text, e := puny.Encode(l); e == api.OK {
				wantUnicode(t, "xn--"+text)
			}
		}
	})
}

func TestToUnicodeLength(t *testing.T) {
	for _, s := range []string{"a", "A", ".", "\x80", "\xfc"} {
		for _, many := range []int{2001, 100000} {
			if l, e := ToUnicode(strings.Repeat(s, many)); e != api.ErrLength || len(l) != 0 {
				t.Errorf("%q %d times: %d, %d", s, many, len(l), e)
			}
		}
		wantUnicode(t, strings.Repeat(s, 2000))
	}
	long := code(slices.Repeat([]rune{0x4E00}, 1994)...) // 2000 bytes
	if l, e := ToUnicode(long); len(long) != 2000 || e != api.OK || len(l) != 1994 {
		t.Errorf("%d bytes: %d, %d", len(long), len(l), e)
	}
	if l, e := ToUnicode(long + "a"); e != api.ErrLength || len(l) != 0 {
		t.Errorf("2001 bytes: %d, %d", len(l), e)
	}
	if l, e := ToUnicode("xn--" + strings.Repeat("9", 20000)); e != api.ErrLength || len(l) != 0 {
		t.Errorf("20004 bytes: %d, %d", len(l), e)
	}
}

// failing: a label, and all clauses that it violates.
var failing = []struct {
	l    []rune
	want []uint8
}{
	// the chapter's
	{[]rune{0x70, 0x430}, []uint8{api.ClauseScript}},
	{[]rune{0x2D, 0x661, 0x6F1}, []uint8{api.ClauseEdge, api.ClauseContext, api.ClauseFirst, api.ClauseSystem}},
	// none
	{[]rune("a"), nil},
	{[]rune("b\u00fccher"), nil},
	{[]rune("a--b"), nil},
	{[]rune("1"), nil}, // the bidi rule is for what is bidi alone
	{[]rune("a b"), nil},
	{[]rune{0x5D0, '1'}, nil},
	{[]rune{'l', 0xB7, 'l'}, nil},
	{[]rune{0x915, 0x94D, 0x200D}, nil},
	{[]rune{'a', 0x4E00}, nil},
	{[]rune{0x6F1}, nil},
	// each clause alone
	{nil, []uint8{api.ClauseEmpty}},
	{[]rune{}, []uint8{api.ClauseEmpty}},
	{[]rune{'a', 0x301}, []uint8{api.ClauseNorm}},
	{[]rune("ab--c"), []uint8{api.ClauseHyphen}},
	{[]rune("-a"), []uint8{api.ClauseEdge}},
	{[]rune("a-"), []uint8{api.ClauseEdge}},
	{[]rune{0x301}, []uint8{api.ClauseMark}},
	{[]rune("A"), []uint8{api.ClauseCode}},
	{[]rune{0xE000}, []uint8{api.ClauseCode}},
	{[]rune{-1}, []uint8{api.ClauseCode}},
	{[]rune("a.b"), []uint8{api.ClauseDot}},
	{[]rune{'a', 0x200D}, []uint8{api.ClauseJoin}},
	{[]rune{0x200C, 'a'}, []uint8{api.ClauseJoin}},
	{[]rune{'a', 0xB7}, []uint8{api.ClauseContext}},
	{[]rune{'a', 0x30FB}, []uint8{api.ClauseContext}},
	{[]rune{'1', 0x5D0}, []uint8{api.ClauseFirst}},
	{[]rune{0x661}, []uint8{api.ClauseFirst}},
	{[]rune{0x5D0, ' ', 0x5D0}, []uint8{api.ClauseInside}},
	{[]rune{0x5D0, '!'}, []uint8{api.ClauseLast}},
	{[]rune{0x627, '1', 0x66B}, []uint8{api.ClauseDigits}},
	{[]rune{0x3B1, 0x430}, []uint8{api.ClauseScript}},
	{[]rune{'1', 0x967}, []uint8{api.ClauseSystem}},
	// of those that are asked for in one order, the first one alone
	{[]rune("-a--"), []uint8{api.ClauseHyphen}},
	{[]rune("-.A"), []uint8{api.ClauseEdge}},
	{[]rune{0x5D0, ' ', '!'}, []uint8{api.ClauseInside}},
	// both scripts and systems
	{[]rune{'1', 0x967, 'a'}, []uint8{api.ClauseScript, api.ClauseSystem}},
	// those of all positions, each once, and by their numbers
	{[]rune{0xB7, 0x200D}, []uint8{api.ClauseJoin, api.ClauseContext}},
	{[]rune{0x200D, 0xB7}, []uint8{api.ClauseJoin, api.ClauseContext}},
	{[]rune{0x200D, 0xB7, 0x200C, 0xB7}, []uint8{api.ClauseJoin, api.ClauseContext}},
	{[]rune{'l', 0xB7, 'l', 0x200D, 'l', 0xB7}, []uint8{api.ClauseJoin, api.ClauseContext}},
	{[]rune{0x94D, 0x200D, 'a', 0x200D}, []uint8{api.ClauseMark, api.ClauseJoin, api.ClauseScript}},
	// by their numbers also where what is asked first has the greater one
	{[]rune{'a', '.', 0xB7}, []uint8{api.ClauseDot, api.ClauseContext}},
	{[]rune{0xE000, 0x200D, 0x5D0}, []uint8{api.ClauseCode, api.ClauseJoin, api.ClauseInside}},
	{[]rune{'-', 0x200D, 0xB7, 0x5D0, 'a', '1', 0x661}, []uint8{api.ClauseEdge, api.ClauseJoin, api.ClauseContext, api.ClauseFirst, api.ClauseScript, api.ClauseSystem}},
}

// P11.3

func TestFails(t *testing.T) {
	for _, c := range failing {
		if got := Fails(c.l); !slices.Equal(got, c.want) {
			t.Errorf("Fails(%x) = %d, want %d", c.l, got, c.want)
		}
	}
}

func wantFails(t *testing.T, l []rune) {
	t.Helper()
	if got, want := Fails(l), referenceFails(l); !slices.Equal(got, want) {
		t.Fatalf("Fails(%x) = %d, want %d", l, got, want)
	}
}

func TestFailsByReference(t *testing.T) {
	see := func(l []rune) { wantFails(t, l) }
	sample.Lists(3, edges, see)
	sample.Lists(5, []rune{'a', '-', '1', 0xB7, 0x200D, 0x5D0, 0x661}, see)
	noisy(13, 20000, see)
}

func TestFailsEachRune(t *testing.T) {
	sample.Runes(-0x100, 0x10FFF, far, func(r rune) {
		for _, l := range [][]rune{{r}, {'a', r}, {0x5D0, r}} {
			wantFails(t, l)
		}
	})
}

func TestFailsLong(t *testing.T) {
	for last, want := range map[rune][]uint8{
		0x661:  nil,
		0x6F1:  {api.ClauseContext, api.ClauseDigits, api.ClauseSystem},
		0x200D: {api.ClauseJoin, api.ClauseLast},
		'a':    {api.ClauseInside, api.ClauseScript},
	} {
		l := slices.Concat([]rune{0x627}, slices.Repeat([]rune{0x661}, 1998), []rune{last})
		if got := Fails(l); !slices.Equal(got, want) {
			t.Errorf("with %x at its end: %d, want %d", last, got, want)
		}
	}
	// what violates nothing is not gone through for each code point of it
	if got := Fails(slices.Concat([]rune{0x627}, slices.Repeat([]rune{0x661}, 400000))); len(got) != 0 {
		t.Errorf("%d", got)
	}
}

// P11.4

// wantAgain asks that ToASCII of what ToASCII returned is the same, as long as it isn't too long for that.
func wantAgain(t *testing.T, l []rune) {
	t.Helper()
	once, e := ToASCII(l)
	if e != api.OK || len(once) > 2000 {
		return
	}
	if again, e := ToASCII([]rune(once)); again != once || e != api.OK {
		t.Fatalf("%x is %q, and then %q, %d", l, once, again, e)
	}
	for s := range strings.SplitSeq(once, ".") {
		if _, e := ToUnicode(s); e != api.OK {
			t.Fatalf("%x is %q, and of its label %q ToUnicode returns %d", l, once, s, e)
		}
	}
}

func TestAgain(t *testing.T) {
	see := func(l []rune) { wantAgain(t, l) }
	for _, c := range domains {
		see(c.l)
	}
	joined(3, pieces, see)
	noisy(14, 16000, see)
	sample.Runes(0, 0x10FFF, nil, func(r rune) { see([]rune{'a', r}) })
}

// TestUnicodeAgain: the code points of the labels, put together, are the same domain.
func TestUnicodeAgain(t *testing.T) {
	noisy(15, 16000, func(l []rune) {
		once, e := ToASCII(l)
		if e != api.OK {
			return
		}
		var all []rune
		for i, s := range strings.Split(once, ".") {
			if i > 0 {
				all = append(all, '.')
			}
			one, _ := ToUnicode(s)
			all = append(all, one...)
		}
		wantASCII(t, all, once, api.OK)
	})
}

// unmapped returns, for what some are mapped to, those that are.
func unmapped() map[rune][]rune {
	out := map[rune][]rune{}
	for r := rune(0); r <= 0xFFFF; r++ {
		if to, how := remap.One(r); how == api.MapTo && len(to) == 1 {
			out[to[0]] = append(out[to[0]], r)
		}
	}
	return out
}

func TestFormsDoNotMatter(t *testing.T) {
	from := unmapped()
	next := sample.Noise(16)
	if !slices.Equal(from['a'], []rune{'A', 0xFF21, 0xFF41}) {
		t.Fatalf("%x", from['a'])
	}
	noisy(17, 8000, func(l []rune) {
		other := norm.NFD(l)
		for i, r := range other {
			if forms := from[r]; len(forms) > 0 && next(2) == 0 {
				other[i] = forms[next(len(forms))]
			}
		}
		for _, same := range [][]rune{norm.NFD(l), norm.NFC(l), other, norm.NFC(other)} {
			a, e := ToASCII(l)
			if b, f := ToASCII(same); a != b || e != f {
				t.Fatalf("ToASCII(%x) = %q, %d, of %x %q, %d", l, a, e, same, b, f)
			}
		}
	})
}

// The labels of a domain are yielded only as long as they are taken, and again from the first one on.

func TestLabels(t *testing.T) {
	all := labels([]rune("a..bc."))
	for range 2 {
		var got []string
		for l := range all {
			got = append(got, string(l))
		}
		if want := []string{"a", "", "bc", ""}; !slices.Equal(got, want) {
			t.Errorf("%q, want %q", got, want)
		}
	}
	for l := range all {
		if string(l) != "a" {
			t.Errorf("%q", string(l))
		}
		break
	}
}

// R3

func TestArgumentIsLeft(t *testing.T) {
	for _, c := range domains {
		room := slices.Concat(c.l, []rune{'.', 0x301, 0xE000, 0xFC})
		was := slices.Clone(room)
		// nor is what stands behind its end looked at
		wantASCII(t, room[:len(c.l)], c.want, c.e)
		if !slices.Equal(room, was) {
			t.Errorf("%x has become %x", was, room)
		}
	}
	for _, c := range failing {
		room := slices.Concat(c.l, []rune{0x301, 0xE000, 0xB7})
		was := slices.Clone(room)
		if got := Fails(room[:len(c.l)]); !slices.Equal(got, c.want) {
			t.Errorf("Fails(%x) = %d", c.l, got)
		}
		if !slices.Equal(room, was) {
			t.Errorf("%x has become %x", was, room)
		}
	}
}

func TestResultsAreNew(t *testing.T) {
	for _, c := range labelTexts {
		a, _ := ToUnicode(c.s)
		clear(a)
		if b, e := ToUnicode(c.s); e != c.e || !slices.Equal(b, c.want) {
			t.Errorf("ToUnicode(%q) = %x, %d", c.s, b, e)
		}
	}
	for _, c := range failing {
		clear(Fails(c.l))
		if got := Fails(c.l); !slices.Equal(got, c.want) {
			t.Errorf("Fails(%x) = %d", c.l, got)
		}
	}
}
