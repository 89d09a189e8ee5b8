package label

import (
	"math"
	"slices"
	"testing"

	"fascia/api"
	"fascia/norm"
	"fascia/remap"
	"fascia/sample"
)

// far: numbers that are no scalar, those at the ends of what there is, and those that are a letter, a hyphen or a dot in their lower bits.
var far = []rune{-1, -2, -0x2D, -0x2E, -0x61, math.MinInt32, math.MinInt32 + 1, math.MinInt32 + 0x61, 0xD7A4, 0xD800, 0xDBFF, 0xDC00, 0xDFFF, 0xE000, 0xFFFD, 0xFFFF, 0x10000, 0x1002D, 0x1002E, 0x10061, 0x10301, 0x10FFFF, 0x110000, 0x110061, math.MaxInt32 - 1, math.MaxInt32}

// eachRune calls see with all code points up to last, numbers before them, and those far off.
func eachRune(last rune, see func(rune)) {
	sample.Runes(-0x1000, last, far, see)
}

// lists calls see with lists that violate each clause, and several at once.
func lists(see func([]rune)) {
	sample.Lists(6, []rune{'a', '-', '.', 0x301, 0xE000}, see)
	sample.Lists(3, []rune{'e', 'E', 0xE9, '-', '.', 0x301, 0x327, 0x903, 0xAD, 0xDF, 0x200D, 0x2026, 0x2329, 0x3002, 0xFE0F, 0x3099, 0x30AB, 0x1100, 0x1161, 0xAC00, 0xD800, -1, 0x110000}, see)
	eachRune(0x10FFF, func(r rune) {
		see([]rune{r})
		see([]rune{'a', r})
	})
}

// P7.1

func TestCode(t *testing.T) {
	for _, r := range []rune{0, 9, ' ', '-', '.', '/', '0', '@', '[', '_', 'a', 'z', 0x7F, 0xB7, 0xDF, 0xE1, 0x301, 0x3C2, 0x430, 0x5D0, 0x661, 0x6F1, 0x903, 0x1100, 0x200C, 0x200D, 0x2013, 0x3008, 0x30A2, 0x30FB, 0x4E00, 0xAC00} {
		if !Code(r) {
			t.Errorf("%x is not allowed", r)
		}
	}
	for _, r := range []rune{
		'A', 'Z', 0xA0, 0xC0, 0x391, 0x410, 0x2026, 0x2329, 0x3002, 0xFF0E, 0xFF21, // mapped to others
		0xAD, 0x200B, 0xFE0E, 0xFE0F, 0xFEFF, // ignored
		0x80, 0x85, 0x9F, 0x61C, 0x200E, 0x202E, 0x2066, 0xFFFD, 0xA1, 0x378, 0xE000, // bad
	} {
		if Code(r) {
			t.Errorf("%x is allowed", r)
		}
	}
	for _, r := range far {
		if Code(r) {
			t.Errorf("%x is allowed", r)
		}
	}
}

func TestCodeEach(t *testing.T) {
	eachRune(api.MaxRune+0x11000, func(r rune) {
		if Code(r) != allowed(r) {
			t.Fatalf("Code(%x) = %v", r, Code(r))
		}
	})
}

// checks: a label, and the clauses that it violates first, with edges and without.
var checks = []struct {
	l             []rune
	with, without uint8
}{
	// the chapter's
	{[]rune("a--b"), 0, 0},
	{[]rune("ab--c"), api.ClauseHyphen, 0},
	{[]rune{0x301, 'a'}, api.ClauseMark, api.ClauseMark},
	{[]rune{'a', 0x301}, api.ClauseNorm, api.ClauseNorm},
	{[]rune{0xE1}, 0, 0},
	{[]rune{'A'}, api.ClauseCode, api.ClauseCode},
	{[]rune("a.b"), api.ClauseDot, api.ClauseDot},
	{[]rune("-a"), api.ClauseEdge, 0},
	{nil, api.ClauseEmpty, api.ClauseEmpty},
	{[]rune{}, api.ClauseEmpty, api.ClauseEmpty},
	// none
	{[]rune("a"), 0, 0},
	{[]rune("a b/c@\x00\x7F"), 0, 0},
	{[]rune("b\u00fccher"), 0, 0},
	{[]rune{0x4E00}, 0, 0},
	{[]rune{0x915, 0x94D, 0x200D}, 0, 0},
	{[]rune{0x200D}, 0, 0}, // where a joiner may be is not asked here
	// the third and the fourth one, and no others
	{[]rune("ab--"), api.ClauseHyphen, 0},
	{[]rune("xn--a"), api.ClauseHyphen, 0},
	{[]rune("----"), api.ClauseHyphen, 0},
	{[]rune("-a--"), api.ClauseHyphen, 0},
	{[]rune{0xE1, 0x4E00, '-', '-', 'a'}, api.ClauseHyphen, 0},
	{[]rune("a-b-c"), 0, 0},
	{[]rune("ab-c-d"), 0, 0},
	{[]rune("abc--d"), 0, 0},
	{[]rune("abcd--e"), 0, 0},
	{[]rune{'a', 'b', 0x2013, 0x2013, 'c'}, 0, 0},
	// the first and the last one
	{[]rune("-"), api.ClauseEdge, 0},
	{[]rune("--"), api.ClauseEdge, 0},
	{[]rune("---"), api.ClauseEdge, 0},
	{[]rune("a-"), api.ClauseEdge, 0},
	{[]rune("a--"), api.ClauseEdge, 0},
	{[]rune("--a"), api.ClauseEdge, 0},
	{[]rune("abc-d-"), api.ClauseEdge, 0},
	{[]rune{0x2013}, 0, 0},
	// dots wherever they stand, and what becomes a dot
	{[]rune("."), api.ClauseDot, api.ClauseDot},
	{[]rune(".a"), api.ClauseDot, api.ClauseDot},
	{[]rune("a."), api.ClauseDot, api.ClauseDot},
	{[]rune{'a', 0x3002, 'b'}, api.ClauseCode, api.ClauseCode},
	{[]rune{'a', 0xFF0E}, api.ClauseCode, api.ClauseCode},
	{[]rune{0x2026}, api.ClauseCode, api.ClauseCode},
	// marks of all kinds, first and elsewhere
	{[]rune{0x301}, api.ClauseMark, api.ClauseMark},
	{[]rune{0x903, 0x915}, api.ClauseMark, api.ClauseMark},
	{[]rune{0x94D}, api.ClauseMark, api.ClauseMark},
	{[]rune{0x64B, 0x628}, api.ClauseMark, api.ClauseMark},
	{[]rune{0xFE0F, 'a'}, api.ClauseMark, api.ClauseMark},  // ignored, and a mark still
	{[]rune{0x5B0, 0x5D0}, api.ClauseCode, api.ClauseCode}, // a mark elsewhere, but in no row
	{[]rune{0x3099, 0x30AB}, api.ClauseMark, api.ClauseMark},
	{[]rune{0x915, 0x903}, 0, 0},
	{[]rune{'x', 0x301}, 0, 0},
	{[]rune{'-', 0x301}, api.ClauseEdge, 0},
	// what is not allowed, wherever it stands
	{[]rune{0xE000}, api.ClauseCode, api.ClauseCode},
	{[]rune{0xE000, 'a'}, api.ClauseCode, api.ClauseCode},
	{[]rune{'a', 0xE000, 'a'}, api.ClauseCode, api.ClauseCode},
	{[]rune{'a', 'a', 0xE000}, api.ClauseCode, api.ClauseCode},
	{[]rune{'a', 0xAD}, api.ClauseCode, api.ClauseCode},
	{[]rune{'a', 0xFE0F}, api.ClauseCode, api.ClauseCode},
	{[]rune{-1}, api.ClauseCode, api.ClauseCode},
	{[]rune{'a', 0x110000}, api.ClauseCode, api.ClauseCode},
	{[]rune{0xD800, 0xDC00}, api.ClauseCode, api.ClauseCode},
	// not normal in other ways
	{[]rune{'a', 0x301, 0x327}, api.ClauseNorm, api.ClauseNorm},
	{[]rune{'x', 0x301, 0x327}, api.ClauseNorm, api.ClauseNorm},
	{[]rune{0x1100, 0x1161}, api.ClauseNorm, api.ClauseNorm},
	{[]rune{0x30AB, 0x3099}, api.ClauseNorm, api.ClauseNorm},
	// several: that which is named first
	{[]rune{'e', 0x301, '-', '-'}, api.ClauseNorm, api.ClauseNorm},
	{[]rune{'-', 'e', 0x301}, api.ClauseNorm, api.ClauseNorm},
	{[]rune{'e', 0x301, '.'}, api.ClauseNorm, api.ClauseNorm},
	{[]rune{0x301, 0x327}, api.ClauseNorm, api.ClauseNorm},
	{[]rune{0x2329}, api.ClauseNorm, api.ClauseNorm},
	{[]rune{0xE000, 'e', 0x301}, api.ClauseNorm, api.ClauseNorm},
	{[]rune("-b--"), api.ClauseHyphen, 0},
	{[]rune("ab--."), api.ClauseHyphen, api.ClauseDot},
	{[]rune{0x301, 'b', '-', '-', 'c'}, api.ClauseHyphen, api.ClauseMark},
	{[]rune("AB--C"), api.ClauseHyphen, api.ClauseCode},
	{[]rune("-.a"), api.ClauseEdge, api.ClauseDot},
	{[]rune{0x301, '-'}, api.ClauseEdge, api.ClauseMark},
	{[]rune("-A"), api.ClauseEdge, api.ClauseCode},
	{[]rune{0x301, '.'}, api.ClauseDot, api.ClauseDot},
	{[]rune("A.B"), api.ClauseDot, api.ClauseDot},
	{[]rune{0x301, 'A'}, api.ClauseMark, api.ClauseMark},
	{[]rune{0x301, 0x3002}, api.ClauseMark, api.ClauseMark},
}

func TestCheck(t *testing.T) {
	for _, c := range checks {
		if got := Check(c.l, true); got != c.with {
			t.Errorf("Check(%x, true) = %d, want %d", c.l, got, c.with)
		}
		if got := Check(c.l, false); got != c.without {
			t.Errorf("Check(%x, false) = %d, want %d", c.l, got, c.without)
		}
	}
}

func TestCheckFar(t *testing.T) {
	for _, r := range far {
		for _, l := range [][]rune{{r}, {'a', r}, {r, 'a'}, {'a', r, r, 'a'}} {
			for _, edges := range []bool{true, false} {
				if got := Check(l, edges); got != api.ClauseCode {
					t.Errorf("Check(%x, %v) = %d", l, edges, got)
				}
			}
		}
	}
}

func TestCheckByReference(t *testing.T) {
	lists(func(l []rune) {
		for _, edges := range []bool{true, false} {
			if got, want := Check(l, edges), reference(l, edges); got != want {
				t.Fatalf("Check(%x, %v) = %d, want %d", l, edges, got, want)
			}
		}
	})
}

// TestCheckLong: one code point decides, however far behind it stands.
func TestCheckLong(t *testing.T) {
	for last, want := range map[rune]uint8{'a': 0, '-': api.ClauseEdge, '.': api.ClauseDot, 0x301: api.ClauseNorm, 0x903: 0, 0xE000: api.ClauseCode} {
		l := append(slices.Repeat([]rune{'a', 0x4E00, 'a'}, 20000), last)
		if got := Check(l, true); got != want {
			t.Errorf("with %x at its end: %d, want %d", last, got, want)
		}
	}
}

func TestCheckLeavesArgument(t *testing.T) {
	for _, c := range checks {
		room := slices.Concat(c.l, []rune{'x', 0x301, '-'})
		was := slices.Clone(room)
		Check(room[:len(c.l)], true)
		Check(room[:len(c.l)], false)
		if !slices.Equal(room, was) {
			t.Errorf("%x has become %x", was, room)
		}
	}
}

// P7.2

func TestConsequences(t *testing.T) {
	lists(func(l []rune) {
		with, without := Check(l, true), Check(l, false)
		if without != 0 && with == 0 {
			t.Fatalf("%x violates %d without edges alone", l, without)
		}
		if without != 0 {
			return
		}
		if mapped, good := remap.Map(l); !good || !slices.Equal(mapped, l) {
			t.Fatalf("%x violates nothing, and is mapped to %x, %v", l, mapped, good)
		}
		if !slices.Equal(norm.NFC(l), l) {
			t.Fatalf("%x violates nothing, and its normal form is %x", l, norm.NFC(l))
		}
	})
}
