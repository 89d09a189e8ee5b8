package remap

import (
	"math"
	"slices"
	"testing"

	"fascia/api"
	"fascia/sample"
	"fascia/ucd"
)

// far: numbers that are no scalar, those at the ends of what there is, and those that are a mapped one in their lower bits.
var far = []rune{-1, -2, -0x41, -0x5A, -0xAD, -0xFF21, math.MinInt32, math.MinInt32 + 1, math.MinInt32 + 0x41, 0xD7A4, 0xD800, 0xDBFF, 0xDC00, 0xDFFF, 0xE000, 0xFFFE, 0xFFFF, 0x10000, 0x10041, 0x100AD, 0x12026, 0x1FF21, 0x10FFFF, 0x110000, 0x110041, math.MaxInt32 - 1, math.MaxInt32}

// edges: of each kind some, and what is mapped to others of them.
var edges = []rune{'A', 'a', '.', 0, 0x7F, 0x80, 0xA0, 0xAD, 0xDF, 0x301, 0x1D7, 0x200B, 0x200D, 0x2026, 0x202E, 0x3002, 0xE000, 0xFF21, -1, 0x110000}

// eachRune calls see with all code points, numbers before and behind them, and those far off.
func eachRune(see func(rune)) {
	sample.Runes(-0x11000, api.MaxRune+0x11000, far, see)
}

// everything: all code points in one list.
func everything() []rune {
	var l []rune
	eachRune(func(r rune) { l = append(l, r) })
	return l
}

// P6.1

func TestOneDocument(t *testing.T) {
	for r, want := range map[rune]answer{
		0x41:   {[]rune{0x61}, api.MapTo},
		0xDF:   {[]rune{0xDF}, api.MapValid},
		0xAD:   {nil, api.MapIgnore},
		0x202E: {nil, api.MapBad},
	} {
		wantOne(t, r, want)
	}
}

func wantOne(t *testing.T, r rune, want answer) {
	t.Helper()
	if l, how := One(r); how != want.how || !slices.Equal(l, want.l) {
		t.Errorf("One(%x) = %x, %d, want %x, %d", r, l, how, want.l, want.how)
	}
}

// TestOneMapped: both ends of what is mapped, and what stands beside them.
func TestOneMapped(t *testing.T) {
	for r, to := range map[rune]rune{
		'A': 'a', 'M': 'm', 'Z': 'z',
		0xA0: 0x20,
		0xC0: 0xE0, 0xD6: 0xF6, 0xD8: 0xF8, 0xDE: 0xFE,
		0x152: 0x153, 0x1D7: 0x1D8,
		0x386: 0x3AC, 0x388: 0x3AD, 0x389: 0x3AE, 0x38A: 0x3AF,
		0x391: 0x3B1, 0x3A1: 0x3C1, 0x3A3: 0x3C3, 0x3A9: 0x3C9,
		0x401: 0x451, 0x406: 0x456, 0x410: 0x430, 0x42F: 0x44F,
		0x2329: 0x3008, 0x232A: 0x3009,
		0x3002: 0x2E, 0xFF0E: 0x2E, 0xFF0F: 0x2F,
		0xFF08: 0x28, 0xFF09: 0x29,
		0xFF10: '0', 0xFF19: '9', 0xFF1A: ':',
		0xFF21: 'a', 0xFF3A: 'z', 0xFF41: 'a', 0xFF5A: 'z',
	} {
		wantOne(t, r, answer{[]rune{to}, api.MapTo})
	}
	wantOne(t, 0x2026, answer{[]rune("..."), api.MapTo})
}

func TestOneIgnored(t *testing.T) {
	for _, r := range []rune{0xAD, 0x200B, 0xFE0E, 0xFE0F, 0xFEFF} {
		wantOne(t, r, answer{nil, api.MapIgnore})
	}
}

func TestOneValid(t *testing.T) {
	for _, r := range []rune{
		0, 9, 0xA, 0x1F, ' ', '-', '.', '/', '0', '9', ':', '@', '[', '_', '`', 'a', 'z', '{', 0x7F, // all of ASCII
		0xDF, 0x3C2, 0x200C, 0x200D, // those that are named
		0xA2, 0xB7, 0xD7, 0xE0, 0xF7, 0xFF, 0x131, 0x153, 0x1D8, 0x301, 0x375, 0x3AC, 0x3B1, 0x3C9,
		0x430, 0x44F, 0x451, 0x5D0, 0x5F4, 0x61B, 0x61F, 0x640, 0x660, 0x6F0, 0x903, 0x94D, 0x1100, 0x11C2,
		0x2013, 0x201F, 0x2044, 0x20AC, 0x2215, 0x3005, 0x3008, 0x3009, 0x300C, 0x30FB, 0x30FC, 0x4E00, 0x9FFF, 0xAC00, 0xD7A3,
	} {
		wantOne(t, r, answer{[]rune{r}, api.MapValid})
	}
}

func TestOneBad(t *testing.T) {
	for _, r := range slices.Concat(far, []rune{
		0x80, 0x84, 0x85, 0x86, 0x9F, // controls that are not ASCII
		0x61C, 0x200E, 0x200F, 0x2028, 0x2029, 0x202A, 0x202B, 0x202C, 0x202D, 0x202E, 0x2066, 0x2067, 0x2068, 0x2069, 0xFFFD,
		0xA1, 0xA6, 0xA8, 0xAE, 0xB2, 0x100, 0x130, 0x151, 0x154, 0x1D6, 0x1D9, 0x315, 0x385, 0x387, 0x38B, 0x390, 0x3A2, 0x3AA, 0x3CA, // in no row
		0x400, 0x402, 0x407, 0x450, 0x452, 0x200A, 0x2010, 0x2025, 0x2027, 0x202F, 0x2065, 0x206A, 0x2328, 0x232B,
		0x3001, 0x3003, 0x3007, 0xFE0D, 0xFE10, 0xFEFE, 0xFF00, 0xFF07, 0xFF0A, 0xFF0D, 0xFF1B, 0xFF20, 0xFF3B, 0xFF40, 0xFF5B, 0xFFFC,
		0x1F600, 0x1E900,
	}) {
		wantOne(t, r, answer{nil, api.MapBad})
	}
}

func TestOneEach(t *testing.T) {
	ref := newReference()
	eachRune(func(r rune) {
		if l, how := One(r); how != ref.one(r).how || !slices.Equal(l, ref.one(r).l) {
			t.Fatalf("One(%x) = %x, %d, want %v", r, l, how, ref.one(r))
		}
	})
}

func TestOneIsNew(t *testing.T) {
	for _, r := range []rune{'A', 'a', 0x2026, 0xFF21} {
		a, b := One(r)
		was := slices.Clone(a)
		clear(a)
		if again, how := One(r); how != b || !slices.Equal(again, was) {
			t.Errorf("One(%x) = %x, %d, and was %x, %d", r, again, how, was, b)
		}
	}
}

// P6.2

func TestMap(t *testing.T) {
	for i, x := range []struct {
		l, want []rune
		good    bool
	}{
		{[]rune{0xFF21, 0x3002, 0xAD, 0x2026}, []rune{0x61, 0x2E, 0x2E, 0x2E, 0x2E}, true}, // the chapter's
		{[]rune{0xE000}, []rune{0xE000}, false},
		{nil, nil, true},
		{[]rune{}, nil, true},
		{[]rune("abc-1.de"), []rune("abc-1.de"), true},
		{[]rune("B\u00dcCHER.DE"), []rune("b\u00fccher.de"), true},
		{[]rune("Fa\u00df\u03a3\u03c2"), []rune("fa\u00df\u03c3\u03c2"), true},
		{[]rune("\uff11\uff1a\uff0f\uff08\u2329\u00a0"), []rune("1:/(\u3008 "), true},
		// nothing is left of what is ignored, and that is not bad
		{[]rune{0xAD}, nil, true},
		{[]rune{0xFEFF, 0xAD, 0x200B, 0xFE0E, 0xFE0F}, nil, true},
		{[]rune{'a', 0x200B, 'b'}, []rune("ab"), true},
		{[]rune{'a', 0x200C, 'b', 0x200D}, []rune{'a', 0x200C, 'b', 0x200D}, true},
		{[]rune{0x2026, 'A', 0x2026}, []rune("...a..."), true},
		// a bad one stays, and the others are mapped wherever it stands
		{[]rune{0xE000, 'A'}, []rune{0xE000, 'a'}, false},
		{[]rune{'A', 0xE000}, []rune{'a', 0xE000}, false},
		{[]rune{'A', 0x202E, 0xAD, 'B', 0x80, 0x2026}, []rune{'a', 0x202E, 'b', 0x80, '.', '.', '.'}, false},
		{[]rune{0xFFFD, 0xFFFD}, []rune{0xFFFD, 0xFFFD}, false},
		{[]rune{-1, 0xD800, 0x110000, math.MinInt32, math.MaxInt32}, []rune{-1, 0xD800, 0x110000, math.MinInt32, math.MaxInt32}, false},
		// nothing is composed: that is another step
		{[]rune{'E', 0x301}, []rune{'e', 0x301}, true},
		{[]rune{0xC9}, []rune{0xE9}, true},
	} {
		if l, good := Map(x.l); good != x.good || !slices.Equal(l, x.want) {
			t.Errorf("%d: Map(%x) = %x, %v, want %x, %v", i, x.l, l, good, x.want, x.good)
		}
	}
}

func TestMapEach(t *testing.T) {
	ref := newReference()
	check := func(l []rune) {
		got, good := Map(l)
		if want, wantGood := ref.whole(l); good != wantGood || !slices.Equal(got, want) {
			t.Fatalf("Map of %d from %x on: %d, %v, want %d, %v", len(l), l[:min(len(l), 4)], len(got), good, len(want), wantGood)
		}
	}
	sample.Lists(4, edges, check)
	eachRune(func(r rune) { check([]rune{r}) })
	check(everything())
}

func TestMapLeavesArgument(t *testing.T) {
	l := []rune{'A', 0x2026, 0xAD, 0xE000, 'x', 'Y', 'z'}
	was := slices.Clone(l)
	Map(l[:4])
	Map(l[:1])
	if !slices.Equal(l, was) {
		t.Errorf("the argument is %x now", l)
	}
}

func TestMapIsNew(t *testing.T) {
	l := []rune{'a', 'b', 0xE000}
	a, _ := Map(l)
	b, _ := Map(l)
	clear(a)
	if want := []rune{'a', 'b', 0xE000}; !slices.Equal(l, want) || !slices.Equal(b, want) {
		t.Errorf("the argument is %x, another result %x", l, b)
	}
}

// P6.3

func TestMappedAgain(t *testing.T) {
	check := func(l []rune) {
		once, good := Map(l)
		if twice, again := Map(once); again != good || !slices.Equal(twice, once) {
			t.Fatalf("Map of %d from %x on: %d, %v, mapped again %d, %v", len(l), l[:min(len(l), 4)], len(once), good, len(twice), again)
		}
	}
	sample.Lists(3, edges, check)
	eachRune(func(r rune) { check([]rune{r}) })
	check(everything())
}

func TestNoCapitalIsLeft(t *testing.T) {
	l, _ := Map(everything())
	for _, r := range l {
		if ucd.Of(r).Cat == api.CatUpper {
			t.Errorf("%x is left", r)
		}
	}
}

func TestConcatenation(t *testing.T) {
	sample.Lists(2, edges, func(a []rune) {
		a = slices.Clone(a)
		mapped, goodA := Map(a)
		sample.Lists(2, edges, func(b []rune) {
			rest, goodB := Map(b)
			l, good := Map(slices.Concat(a, b))
			if good != (goodA && goodB) || !slices.Equal(l, slices.Concat(mapped, rest)) {
				t.Fatalf("Map(%x %x) = %x, %v, want %x %x", a, b, l, good, mapped, rest)
			}
		})
	})
}
