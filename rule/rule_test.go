package rule

import (
	"math"
	"slices"
	"testing"

	"fascia/api"
	"fascia/sample"
	"fascia/ucd"
)

// each: one code point of each bidi class, by its number.
var each = []rune{
	api.BidiL: 'a', api.BidiR: 0x5D0, api.BidiAL: 0x627, api.BidiEN: '1', api.BidiES: '-', api.BidiET: '#',
	api.BidiAN: 0x661, api.BidiCS: ',', api.BidiNSM: 0x301, api.BidiBN: 0xAD, api.BidiB: '\n', api.BidiS: '\t',
	api.BidiWS: ' ', api.BidiON: '!', api.BidiLRE: 0x202A, api.BidiRLE: 0x202B, api.BidiPDF: 0x202C,
	api.BidiLRO: 0x202D, api.BidiRLO: 0x202E, api.BidiLRI: 0x2066, api.BidiRLI: 0x2067, api.BidiFSI: 0x2068, api.BidiPDI: 0x2069,
}

func TestEachIsOfItsClass(t *testing.T) {
	for class, r := range each {
		if got := ucd.Of(r).Bidi; int(got) != class || names[got] == "" {
			t.Errorf("%x is of class %d %s, not %d", r, got, names[got], class)
		}
	}
	if len(each) != len(names) {
		t.Errorf("%d classes, want %d", len(each), len(names))
	}
}

// far: numbers that are no scalar, those at the ends of what there is, and those that are from right to left, or a digit, in their lower bits. All are L.
var far = []rune{-1, -2, -0x31, -0x5D0, -0x661, math.MinInt32, math.MinInt32 + 1, math.MinInt32 + 0x5D0, 0xD800, 0xDFFF, 0xE000, 0xFFFF, 0x10000, 0x1002D, 0x10031, 0x10301, 0x105D0, 0x10627, 0x10661, 0x10FFFF, 0x110000, 0x1105D0, 0x110661, math.MaxInt32 - 1, math.MaxInt32}

// eachRune calls see with all code points up to 10FFF, numbers before them, and those far off.
func eachRune(see func(rune)) {
	sample.Runes(-0x1000, 0x10FFF, far, see)
}

// lists calls see with lists that have each class first, inside and last, and among marks.
func lists(see func([]rune)) {
	sample.Lists(3, each, see)
	sample.Lists(5, []rune{'a', 0x5D0, 0x627, '1', '-', 0x661, 0x301, ' '}, see)
	sample.Lists(8, []rune{0x5D0, '1', 0x661, 0x301}, see)
	sample.Lists(8, []rune{'a', '1', '-', 0x301}, see)
}

// labels: a label, the first clause that it violates, and whether it is bidi.
var labels = []struct {
	l    []rune
	want uint8
	bidi bool
}{
	// the chapter's
	{[]rune{0x5D0, 0x31}, 0, true},
	{[]rune{0x5D0, 0x61}, api.ClauseInside, true},
	{[]rune{0x5D0, 0x2D}, api.ClauseLast, true},
	{[]rune{0x627, 0x31, 0x661}, api.ClauseDigits, true},
	{[]rune{0x31, 0x5D0}, api.ClauseFirst, true},
	{[]rune{0x61, 0x31}, 0, false},
	{[]rune{0x61, 0x2D}, api.ClauseLast, false},
	{[]rune{0x61, 0x5D0}, api.ClauseInside, true},
	{[]rune{0x5D0, 0x5B7}, 0, true},
	{[]rune{0x661}, api.ClauseFirst, true},
	// one that begins with neither
	{nil, api.ClauseFirst, false},
	{[]rune{}, api.ClauseFirst, false},
	{[]rune("1"), api.ClauseFirst, false},
	{[]rune("1a"), api.ClauseFirst, false},
	{[]rune("-a"), api.ClauseFirst, false},
	{[]rune{0x6F1, 0x627}, api.ClauseFirst, true},
	{[]rune{0x661, 0x627}, api.ClauseFirst, true},
	{[]rune{0x301}, api.ClauseFirst, false},
	{[]rune{0x301, 0x301}, api.ClauseFirst, false},
	{[]rune{0x301, 'a'}, api.ClauseFirst, false},
	{[]rune{0x5B7, 0x5D0}, api.ClauseFirst, true},
	{[]rune{0xAD, 'a'}, api.ClauseFirst, false},
	{[]rune{0x202E, 'a'}, api.ClauseFirst, false},
	{[]rune{0x2067, 0x5D0}, api.ClauseFirst, true},
	// from right to left: the whole of what may be inside, and what may be last
	{[]rune{0x5D0}, 0, true},
	{[]rune{0x627}, 0, true},
	{[]rune{0x200F}, 0, true},
	{[]rune{0x61C}, 0, true},
	{[]rune{0x5D0, 0x627}, 0, true},
	{[]rune{0x627, 0x5D0}, 0, true},
	{[]rune{0x5D0, 0x661}, 0, true},
	{[]rune{0x627, '1'}, 0, true},
	{[]rune{0x5D0, '-', ',', '#', '!', 0xAD, 0x5B7, '1', 0x5D0}, 0, true},
	{[]rune{0x627, '-', ',', '#', '!', 0xAD, 0x64E, 0x661, 0x627}, 0, true},
	{[]rune{0x5D0, ','}, api.ClauseLast, true},
	{[]rune{0x5D0, '#'}, api.ClauseLast, true},
	{[]rune{0x5D0, '!'}, api.ClauseLast, true},
	{[]rune{0x5D0, 0xAD}, api.ClauseLast, true},
	{[]rune{0x5D0, ' ', 0x5D0}, api.ClauseInside, true},
	{[]rune{0x5D0, '\t', 0x5D0}, api.ClauseInside, true},
	{[]rune{0x5D0, '\n', 0x5D0}, api.ClauseInside, true},
	{[]rune{0x5D0, 0x200E, 0x5D0}, api.ClauseInside, true},
	{[]rune{0x5D0, 0x202C, 0x5D0}, api.ClauseInside, true},
	{[]rune{0x5D0, 0x2069, 0x5D0}, api.ClauseInside, true},
	{[]rune{0x5D0, 0x967}, api.ClauseInside, true}, // digits of Devanagari are L
	{[]rune{0x5D0, 0xE000}, api.ClauseInside, true},
	// from left to right: the same
	{[]rune("a"), 0, false},
	{[]rune{0x4E00}, 0, false},
	{[]rune{0x967}, 0, false},
	{[]rune{0xE000}, 0, false},
	{[]rune{'a', '-', ',', '#', '!', 0xAD, 0x301, '1', 'a'}, 0, false},
	{[]rune("a,"), api.ClauseLast, false},
	{[]rune("a#"), api.ClauseLast, false},
	{[]rune("a!"), api.ClauseLast, false},
	{[]rune{'a', 0xAD}, api.ClauseLast, false},
	{[]rune("a b"), api.ClauseInside, false},
	{[]rune("a\tb"), api.ClauseInside, false},
	{[]rune("a\nb"), api.ClauseInside, false},
	{[]rune{'a', 0x627, 'a'}, api.ClauseInside, true},
	{[]rune{'a', 0x661, 'a'}, api.ClauseInside, true},
	{[]rune{'a', 0x661}, api.ClauseInside, true},
	{[]rune{'a', 0x202E, 'a'}, api.ClauseInside, false},
	{[]rune{'a', 0x6F1}, 0, false}, // these digits are EN
	// the last one is not the last mark; other code points of no width count
	{[]rune{'a', '-', 0x301}, api.ClauseLast, false},
	{[]rune{'a', '1', 0x301, 0x301}, 0, false},
	{[]rune{'a', 0x301, '-', 0x301, 0x301}, api.ClauseLast, false},
	{[]rune{'a', 0x301, '-', 0x301, 'a', 0x301}, 0, false},
	{[]rune{0x5D0, '-', 0x5B7}, api.ClauseLast, true},
	{[]rune{0x5D0, 0x661, 0x5B7}, 0, true},
	{[]rune{'a', 0x301, 0xAD}, api.ClauseLast, false},
	{[]rune{'a', 0xAD, 0x301}, api.ClauseLast, false},
	{[]rune{'a', '-', 0x903}, 0, false}, // a spacing mark is L
	{[]rune{0x5D0, 0x903}, api.ClauseInside, true},
	// digits of both kinds, wherever they stand
	{[]rune{0x5D0, '1', 0x661}, api.ClauseDigits, true},
	{[]rune{0x5D0, 0x661, '1'}, api.ClauseDigits, true},
	{[]rune{0x5D0, '1', 0x5D0, 0x661, 0x5D0}, api.ClauseDigits, true},
	{[]rune{0x627, 0x6F1, 0x661}, api.ClauseDigits, true},
	{[]rune{0x627, 0xFF11, 0x66B, 0x627}, api.ClauseDigits, true},
	{[]rune{0x627, '1', 0x6F1}, 0, true},
	{[]rune{0x627, 0x661, 0x662}, 0, true},
	// several: that which is named first
	{[]rune{'1', ' ', '-'}, api.ClauseFirst, false},
	{[]rune{0x661, '1', 'a', '-'}, api.ClauseFirst, true},
	{[]rune{0x5D0, ' ', '-'}, api.ClauseInside, true},
	{[]rune{0x5D0, '-', 'a'}, api.ClauseInside, true},
	{[]rune{0x5D0, '1', 0x661, 'a'}, api.ClauseInside, true},
	{[]rune{0x5D0, '1', 0x661, '-'}, api.ClauseLast, true},
	{[]rune{'a', '1', 0x661}, api.ClauseInside, true},
	{[]rune{'a', 0x661, '1', '-'}, api.ClauseInside, true},
	{[]rune{'a', ' ', '-'}, api.ClauseInside, false},
}

// P9.1

func TestLabels(t *testing.T) {
	for _, c := range labels {
		if got := Check(c.l); got != c.want {
			t.Errorf("Check(%x) = %d, want %d", c.l, got, c.want)
		}
		if got := Bidi(c.l); got != c.bidi {
			t.Errorf("Bidi(%x) = %v", c.l, got)
		}
	}
}

func TestFar(t *testing.T) {
	for _, r := range far {
		for _, c := range []struct {
			l    []rune
			want uint8
			bidi bool
		}{
			{[]rune{r}, 0, false},
			{[]rune{r, '1'}, 0, false},
			{[]rune{r, '-'}, api.ClauseLast, false},
			{[]rune{'a', '-', r}, 0, false},
			{[]rune{r, 0x661}, api.ClauseInside, true},
			{[]rune{0x5D0, r}, api.ClauseInside, true},
			{[]rune{'1', r}, api.ClauseFirst, false},
		} {
			if got, bidi := Check(c.l), Bidi(c.l); got != c.want || bidi != c.bidi {
				t.Errorf("%x: %d, %v", c.l, got, bidi)
			}
		}
	}
}

func wantReference(t *testing.T, l []rune) {
	t.Helper()
	if got, want := Check(l), reference(l); got != want {
		t.Fatalf("Check(%x) = %d, want %d", l, got, want)
	}
	if got, want := Bidi(l), referenceBidi(l); got != want {
		t.Fatalf("Bidi(%x) = %v", l, got)
	}
}

func TestByReference(t *testing.T) {
	lists(func(l []rune) { wantReference(t, l) })
}

// TestEachRune: each one first, inside and last, in labels of both directions.
func TestEachRune(t *testing.T) {
	eachRune(func(r rune) {
		for _, l := range [][]rune{{r}, {r, 'a'}, {r, 0x5D0}, {'a', r}, {0x5D0, r}, {'a', r, 'a'}, {0x5D0, r, '1'}, {0x5D0, r, 0x661}} {
			wantReference(t, l)
		}
	})
}

func TestNoise(t *testing.T) {
	next := sample.Noise(9)
	right := []rune{0x5D0, 0x627, '1', '-', '!', 0x301, 0xAD, 0x661}
	for i := range 40000 {
		of := [][]rune{right, right[:7], {'a', '1', '-', '!', 0x301, 0xAD}}[i%3]
		l := sample.Pick(next, 1+next(40), of)
		wantReference(t, l)
		l[0] = of[0]
		wantReference(t, l)
	}
}

// TestLong: what decides stands far behind, or far before the marks at the end.
func TestLong(t *testing.T) {
	many := slices.Repeat([]rune{'1'}, 300000)
	marked := slices.Repeat([]rune{0x301}, 300000)
	for _, c := range []struct {
		first, last rune
		want        uint8
	}{
		{'a', 'a', 0}, {'a', '-', api.ClauseLast}, {'a', 0x5D0, api.ClauseInside}, {'a', ' ', api.ClauseInside},
		{0x5D0, 0x5D0, 0}, {0x5D0, '-', api.ClauseLast}, {0x5D0, 'a', api.ClauseInside}, {0x5D0, 0x661, api.ClauseDigits},
		{'1', 'a', api.ClauseFirst},
	} {
		l := slices.Concat([]rune{c.first}, many, []rune{c.last}, marked)
		if got := Check(l); got != c.want {
			t.Errorf("%x, and %x at its end: %d, want %d", c.first, c.last, got, c.want)
		}
		if got, want := Bidi(l), referenceBidi([]rune{c.first, c.last}); got != want {
			t.Errorf("%x, and %x at its end: %v", c.first, c.last, got)
		}
	}
}

// P9.2

func TestMarksAtEnd(t *testing.T) {
	lists(func(l []rune) {
		check, bidi := Check(l), Bidi(l)
		for _, more := range [][]rune{{0x301}, {0x5B7, 0x64E, 0xFE0F}} {
			marked := slices.Concat(l, more)
			if got := Check(marked); got != check {
				t.Fatalf("Check(%x) = %d, without the marks %d", marked, got, check)
			}
			if got := Bidi(marked); got != bidi {
				t.Fatalf("Bidi(%x) = %v, without the marks %v", marked, got, bidi)
			}
		}
	})
}

func TestFromLeftIsNotBidi(t *testing.T) {
	lists(func(l []rune) {
		if Check(l) == 0 && ucd.Of(l[0]).Bidi == api.BidiL && Bidi(l) {
			t.Fatalf("%x violates nothing, and is bidi", l)
		}
	})
}

// R3

func TestArgumentIsLeft(t *testing.T) {
	for _, c := range labels {
		for _, more := range [][]rune{{'a', 0x5D0, ' '}, {0x661, '1', '-'}} {
			room := slices.Concat(c.l, more)
			was := slices.Clone(room)
			// nor is what stands behind its end looked at
			if got, bidi := Check(room[:len(c.l)]), Bidi(room[:len(c.l)]); got != c.want || bidi != c.bidi {
				t.Errorf("%x: %d, %v", c.l, got, bidi)
			}
			if !slices.Equal(room, was) {
				t.Errorf("%x has become %x", was, room)
			}
		}
	}
}
