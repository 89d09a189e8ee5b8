package mixed

import (
	"math"
	"slices"
	"testing"

	"fascia/api"
	"fascia/sample"
	"fascia/ucd"
)

// each: one code point of each script, by its number. None is ASCII, or a digit.
var each = []rune{
	api.Common: 0xB7, api.Inherited: 0x301, api.Latin: 0xE9, api.Greek: 0x3B1, api.Cyrillic: 0x430, api.Hebrew: 0x5D0,
	api.Arabic: 0x628, api.Devanagari: 0x915, api.Han: 0x4E00, api.Hiragana: 0x3042, api.Katakana: 0x30A2, api.Hangul: 0xAC00,
}

// digits: one of each system, by its number; of none, a letter of ASCII.
var digits = []rune{
	api.DigitsNone: 'a', api.DigitsASCII: '1', api.DigitsArabic: 0x661, api.DigitsEast: 0x6F1, api.DigitsDeva: 0x967, api.DigitsWide: 0xFF11,
}

func TestEachIsOfItsKind(t *testing.T) {
	for script, r := range each {
		if p := ucd.Of(r); int(p.Script) != script || p.Digits != api.DigitsNone || names[script] == "" {
			t.Errorf("%x is of script %d, not %d", r, p.Script, script)
		}
	}
	for system, r := range digits {
		if got := ucd.Of(r).Digits; int(got) != system {
			t.Errorf("%x is of system %d, not %d", r, got, system)
		}
	}
	for _, row := range ucd.Table() {
		if int(row.Script) >= len(each) || int(row.Digits) >= len(digits) {
			t.Errorf("%x: script %d, system %d", row.From, row.Script, row.Digits)
		}
	}
}

// far: numbers that are no scalar, those at the ends of what there is, and those that are a letter or a digit in their lower bits. None has a script, or is a digit.
var far = []rune{-1, -2, -0x31, -0x61, -0x430, -0x661, math.MinInt32, math.MinInt32 + 1, math.MinInt32 + 0x31, math.MinInt32 + 0x61, math.MinInt32 + 0x430, 0x80, 0x9F, 0xD800, 0xDFFF, 0xE000, 0xFFFF, 0x10000, 0x10031, 0x10061, 0x10430, 0x10661, 0x14E00, 0x1AC00, 0x10FFFF, 0x110000, 0x110031, 0x110061, 0x110430, math.MaxInt32 - 1, math.MaxInt32}

// eachRune calls see with all code points up to 10FFF, numbers before them, and those far off.
func eachRune(see func(rune)) {
	sample.Runes(-0x1000, 0x10FFF, far, see)
}

// subsets calls see with all that can be taken of each script, and of each system of digits, in one order: nothing else matters.
func subsets(see func([]rune)) {
	all := slices.Concat(digits, each)
	for bits := range 1 << len(all) {
		var l []rune
		for i, r := range all {
			if bits>>i&1 != 0 {
				l = append(l, r)
			}
		}
		see(l)
	}
}

// labels: a label, its scripts, its level, whether its digits are of one system, and the clause that it violates.
var labels = []struct {
	l       []rune
	scripts []uint8
	level   uint8
	digits  bool
	check   uint8
}{
	// the chapter's
	{[]rune{0x61, 0x31}, []uint8{api.Latin}, api.OnlyASCII, true, 0},
	{[]rune{0xE9}, []uint8{api.Latin}, api.OneScript, true, 0},
	{[]rune{0x61, 0x430}, []uint8{api.Latin, api.Cyrillic}, api.AnyScripts, true, api.ClauseScript},
	{[]rune{0x3042, 0x4E00}, []uint8{api.Han, api.Hiragana}, api.OneScript, true, 0},
	{[]rune{0x61, 0x3042, 0x4E00}, []uint8{api.Latin, api.Han, api.Hiragana}, api.FewScripts, true, 0},
	{[]rune{0xAC00, 0x3042}, []uint8{api.Hiragana, api.Hangul}, api.AnyScripts, true, api.ClauseScript},
	{[]rune{0xAC00, 0x4E00, 0x61}, []uint8{api.Latin, api.Han, api.Hangul}, api.FewScripts, true, 0},
	{[]rune{0x3B1, 0x31}, []uint8{api.Greek}, api.OneScript, true, 0},
	{[]rune{0x31, 0x661}, []uint8{api.Arabic}, api.OneScript, false, api.ClauseSystem},
	{[]rune{0x430, 0x61, 0x31}, []uint8{api.Latin, api.Cyrillic}, api.AnyScripts, true, api.ClauseScript},
	// only ASCII: nothing, what has no script, the last one, and the first one beyond
	{nil, nil, api.OnlyASCII, true, 0},
	{[]rune{}, nil, api.OnlyASCII, true, 0},
	{[]rune("-1_ "), nil, api.OnlyASCII, true, 0},
	{[]rune("AZaz09"), []uint8{api.Latin}, api.OnlyASCII, true, 0},
	{[]rune{0}, nil, api.OnlyASCII, true, 0},
	{[]rune{0x7F}, nil, api.OnlyASCII, true, 0},
	{[]rune{0x80}, nil, api.OneScript, true, 0},
	{[]rune{-1}, nil, api.OneScript, true, 0},
	{[]rune{'a', -1}, []uint8{api.Latin}, api.OneScript, true, 0},
	{[]rune{'a', 0x80}, []uint8{api.Latin}, api.OneScript, true, 0},
	// Common and Inherited are no scripts of a label
	{[]rune{0x301}, nil, api.OneScript, true, 0},
	{[]rune{0xB7, 0x301}, nil, api.OneScript, true, 0},
	{[]rune{'a', 0x301}, []uint8{api.Latin}, api.OneScript, true, 0},
	{[]rune{0x430, '-', 0x301, 0x200D}, []uint8{api.Cyrillic}, api.OneScript, true, 0},
	{[]rune{0x628, 0x640, 0x64E}, []uint8{api.Arabic}, api.OneScript, true, 0},
	{[]rune{0x30FB, 0x30FC, 0x3099}, nil, api.OneScript, true, 0},
	{[]rune{0xE000, 0x430}, []uint8{api.Cyrillic}, api.OneScript, true, 0},
	// one script, whichever
	{[]rune{0x5D0, 0x5B7}, []uint8{api.Hebrew}, api.OneScript, true, 0},
	{[]rune{0xFF41, 'a', 0xE9}, []uint8{api.Latin}, api.OneScript, true, 0},
	{[]rune{0xAC00, 0x1100}, []uint8{api.Hangul}, api.OneScript, true, 0},
	// East Asian ones go together, of one kind or of the other
	{[]rune{0x3042, 0x30A2}, []uint8{api.Hiragana, api.Katakana}, api.OneScript, true, 0},
	{[]rune{0x30A2, 0x3005}, []uint8{api.Han, api.Katakana}, api.OneScript, true, 0},
	{[]rune{0x30A2, 0x4E00, 0x3042, '1'}, []uint8{api.Han, api.Hiragana, api.Katakana}, api.OneScript, true, 0},
	{[]rune{0xAC00, 0x4E00}, []uint8{api.Han, api.Hangul}, api.OneScript, true, 0},
	{[]rune{0xAC00, 0x30A2}, []uint8{api.Katakana, api.Hangul}, api.AnyScripts, true, api.ClauseScript},
	{[]rune{0x4E00, 0xAC00, 0x3042}, []uint8{api.Han, api.Hiragana, api.Hangul}, api.AnyScripts, true, api.ClauseScript},
	{[]rune{0x4E00, 0xAC00, 0x3042, 'a'}, []uint8{api.Latin, api.Han, api.Hiragana, api.Hangul}, api.AnyScripts, true, api.ClauseScript},
	// few: these with Latin, and with no other one
	{[]rune{0x4E00, 'a'}, []uint8{api.Latin, api.Han}, api.FewScripts, true, 0},
	{[]rune{0xE9, 0x3042}, []uint8{api.Latin, api.Hiragana}, api.FewScripts, true, 0},
	{[]rune{0x30A2, 'A'}, []uint8{api.Latin, api.Katakana}, api.FewScripts, true, 0},
	{[]rune{'a', 0xAC00}, []uint8{api.Latin, api.Hangul}, api.FewScripts, true, 0},
	{[]rune{'a', 0x30A2, 0x4E00, 0x3042}, []uint8{api.Latin, api.Han, api.Hiragana, api.Katakana}, api.FewScripts, true, 0},
	{[]rune{'a', 0xAC00, 0x3042}, []uint8{api.Latin, api.Hiragana, api.Hangul}, api.AnyScripts, true, api.ClauseScript},
	{[]rune{0x3B1, 0x4E00}, []uint8{api.Greek, api.Han}, api.AnyScripts, true, api.ClauseScript},
	{[]rune{'a', 0x4E00, 0x430}, []uint8{api.Latin, api.Cyrillic, api.Han}, api.AnyScripts, true, api.ClauseScript},
	// any: Latin with one that is not East Asian, and others
	{[]rune{'a', 0x3B1}, []uint8{api.Latin, api.Greek}, api.AnyScripts, true, api.ClauseScript},
	{[]rune{'a', 0x5D0}, []uint8{api.Latin, api.Hebrew}, api.AnyScripts, true, api.ClauseScript},
	{[]rune{'a', 0x628}, []uint8{api.Latin, api.Arabic}, api.AnyScripts, true, api.ClauseScript},
	{[]rune{'a', 0x915}, []uint8{api.Latin, api.Devanagari}, api.AnyScripts, true, api.ClauseScript},
	{[]rune{0x5D0, 0x628}, []uint8{api.Hebrew, api.Arabic}, api.AnyScripts, true, api.ClauseScript},
	{[]rune{0x3B1, 0x430}, []uint8{api.Greek, api.Cyrillic}, api.AnyScripts, true, api.ClauseScript},
	// digits: none, one system, two; some have a script
	{[]rune{'1', '9', '0'}, nil, api.OnlyASCII, true, 0},
	{[]rune{0x660, 0x669}, []uint8{api.Arabic}, api.OneScript, true, 0},
	{[]rune{0x6F0, 0x6F9}, []uint8{api.Arabic}, api.OneScript, true, 0},
	{[]rune{0x966, 0x96F}, []uint8{api.Devanagari}, api.OneScript, true, 0},
	{[]rune{0xFF10, 0xFF19}, nil, api.OneScript, true, 0},
	{[]rune{0x661, 0x6F1}, []uint8{api.Arabic}, api.OneScript, false, api.ClauseSystem},
	{[]rune{'1', 0xFF11}, nil, api.OneScript, false, api.ClauseSystem},
	{[]rune{'1', 0x967}, []uint8{api.Devanagari}, api.OneScript, false, api.ClauseSystem},
	{[]rune{0x967, 0xFF11}, []uint8{api.Devanagari}, api.OneScript, false, api.ClauseSystem},
	{[]rune{'1', 'a', 'b', 0xFF11}, []uint8{api.Latin}, api.OneScript, false, api.ClauseSystem},
	{[]rune{'1', 0x4E00, 'a', 0xFF11}, []uint8{api.Latin, api.Han}, api.FewScripts, false, api.ClauseSystem},
	{[]rune{0xFF11, 'a', 0xFF12, '3'}, []uint8{api.Latin}, api.OneScript, false, api.ClauseSystem},
	{[]rune{0x66A, '1', 0x66B}, []uint8{api.Arabic}, api.OneScript, true, 0},
	// both: the scripts come first
	{[]rune{'a', 0x661}, []uint8{api.Latin, api.Arabic}, api.AnyScripts, true, api.ClauseScript},
	{[]rune{'a', '1', 0x661}, []uint8{api.Latin, api.Arabic}, api.AnyScripts, false, api.ClauseScript},
	{[]rune{0x661, 0x967}, []uint8{api.Arabic, api.Devanagari}, api.AnyScripts, false, api.ClauseScript},
	{[]rune{'1', 0xFF11, 0x3B1, 0x430}, []uint8{api.Greek, api.Cyrillic}, api.AnyScripts, false, api.ClauseScript},
}

// P10.1

func TestScripts(t *testing.T) {
	for _, c := range labels {
		if got := Scripts(c.l); !slices.Equal(got, c.scripts) {
			t.Errorf("Scripts(%x) = %d, want %d", c.l, got, c.scripts)
		}
	}
}

func TestLevel(t *testing.T) {
	for _, c := range labels {
		if got := Level(c.l); got != c.level {
			t.Errorf("Level(%x) = %d, want %d", c.l, got, c.level)
		}
	}
}

// P10.2

func TestDigitsAndCheck(t *testing.T) {
	for _, c := range labels {
		if got := Digits(c.l); got != c.digits {
			t.Errorf("Digits(%x) = %v", c.l, got)
		}
		if got := Check(c.l); got != c.check {
			t.Errorf("Check(%x) = %d, want %d", c.l, got, c.check)
		}
	}
}

// P10.1 and P10.2

func wantReference(t *testing.T, l []rune) {
	t.Helper()
	if got, want := Scripts(l), referenceScripts(l); !slices.Equal(got, want) {
		t.Fatalf("Scripts(%x) = %d, want %d", l, got, want)
	}
	if got, want := Level(l), referenceLevel(l); got != want {
		t.Fatalf("Level(%x) = %d, want %d", l, got, want)
	}
	if got, want := Digits(l), referenceDigits(l); got != want {
		t.Fatalf("Digits(%x) = %v", l, got)
	}
	if got, want := Check(l), referenceCheck(l); got != want {
		t.Fatalf("Check(%x) = %d, want %d", l, got, want)
	}
}

func TestSubsetsByReference(t *testing.T) {
	subsets(func(l []rune) { wantReference(t, l) })
}

func TestListsByReference(t *testing.T) {
	all := slices.Concat(digits, each, []rune{-1, 0x80, 0x110000})
	sample.Lists(3, all, func(l []rune) { wantReference(t, l) })
	sample.Lists(6, []rune{'a', '1', 0xFF11, 0x4E00, 0x3042, 0xAC00}, func(l []rune) { wantReference(t, l) })
}

// TestEachRune: each one alone, and beside those that it may go together with, or not.
func TestEachRune(t *testing.T) {
	eachRune(func(r rune) {
		for _, l := range [][]rune{{r}, {'a', r}, {r, 0x430}, {0x3042, r}, {r, 0xAC00}, {'a', 0x4E00, r}, {'1', r}, {r, 0x661}} {
			wantReference(t, l)
		}
	})
}

func TestFar(t *testing.T) {
	for _, r := range far {
		if got := Scripts([]rune{r}); len(got) != 0 {
			t.Errorf("Scripts(%x) = %d", r, got)
		}
		for _, c := range []struct {
			l    []rune
			want uint8
		}{
			{[]rune{r}, api.OneScript},
			{[]rune{r, 'a', '1'}, api.OneScript},
			{[]rune{0x430, r}, api.OneScript},
			{[]rune{'a', r, 0x4E00}, api.FewScripts},
			{[]rune{'a', 0x430, r}, api.AnyScripts},
		} {
			if got := Level(c.l); got != c.want {
				t.Errorf("Level(%x) = %d, want %d", c.l, got, c.want)
			}
			if !Digits(c.l) {
				t.Errorf("Digits(%x) is false", c.l)
			}
		}
	}
}

// P10.3

// wantSame holds what the functions return of l against what they return of other.
func wantSame(t *testing.T, l, other []rune) {
	t.Helper()
	if a, b := Scripts(l), Scripts(other); !slices.Equal(a, b) {
		t.Fatalf("Scripts(%x) = %d, of %x %d", l, a, other, b)
	}
	if a, b := Level(l), Level(other); a != b {
		t.Fatalf("Level(%x) = %d, of %x %d", l, a, other, b)
	}
	if a, b := Digits(l), Digits(other); a != b {
		t.Fatalf("Digits(%x) = %v, of %x %v", l, a, other, b)
	}
	if a, b := Check(l), Check(other); a != b {
		t.Fatalf("Check(%x) = %d, of %x %d", l, a, other, b)
	}
}

func TestOrderAndTimes(t *testing.T) {
	all := slices.Concat(digits, each, far)
	next := sample.Noise(10)
	for range 20000 {
		few := sample.Pick(next, 1+next(5), all) // so that labels are of all levels
		l := sample.Pick(next, 1+next(12), few)
		backwards := slices.Clone(l)
		slices.Reverse(backwards)
		at := next(len(l))
		sorted := slices.Sorted(slices.Values(l))
		for _, other := range [][]rune{backwards, slices.Concat(l[at:], l[:at]), sorted, slices.Compact(sorted), slices.Repeat(l, 3)} {
			wantSame(t, l, other)
		}
	}
}

// TestManyTimes: how often is not kept in too few bits.
func TestManyTimes(t *testing.T) {
	for _, many := range []int{128, 256, 1 << 16} {
		for _, c := range labels {
			if many > 256 && len(c.l) > 1 {
				continue
			}
			var l []rune
			for _, r := range c.l {
				l = append(l, slices.Repeat([]rune{r}, many)...)
			}
			level, check := Level(l), Check(l)
			if !slices.Equal(Scripts(l), c.scripts) || level != c.level || Digits(l) != c.digits || check != c.check {
				t.Fatalf("%x, each %d times: %d, %d, %v, %d", c.l, many, Scripts(l), level, Digits(l), check)
			}
		}
	}
}

// TestLong: what decides stands far behind.
func TestLong(t *testing.T) {
	many := slices.Repeat([]rune("a1"), 300000)
	for _, c := range []struct {
		last         rune
		level, check uint8
	}{
		{'a', api.OnlyASCII, 0}, {0xE9, api.OneScript, 0}, {0x4E00, api.FewScripts, 0},
		{0x430, api.AnyScripts, api.ClauseScript}, {0xFF12, api.OneScript, api.ClauseSystem}, {0x661, api.AnyScripts, api.ClauseScript},
	} {
		l := append(slices.Clone(many), c.last)
		if level, check := Level(l), Check(l); level != c.level || check != c.check {
			t.Errorf("%x at the end: %d, %d, want %d, %d", c.last, level, check, c.level, c.check)
		}
	}
}

func TestMoreIsNeverLess(t *testing.T) {
	all := slices.Concat(digits, each, []rune{-1})
	more := func(l []rune) {
		level := Level(l)
		for _, r := range all {
			if got := Level(slices.Concat(l, []rune{r})); got < level {
				t.Fatalf("%x is of level %d, with %x more of %d", l, level, r, got)
			}
		}
	}
	sample.Lists(3, all, more)
	next := sample.Noise(11)
	for range 3000 {
		more(sample.Pick(next, next(10), all))
	}
}

// R3

func TestArgumentIsLeft(t *testing.T) {
	for _, c := range labels {
		room := slices.Concat(c.l, []rune{'a', 0x430, 0x661, 0x967})
		was := slices.Clone(room)
		l := room[:len(c.l)]
		// nor is what stands behind its end looked at
		if got := Scripts(l); !slices.Equal(got, c.scripts) {
			t.Errorf("Scripts(%x) = %d, want %d", l, got, c.scripts)
		}
		if level, digits, check := Level(l), Digits(l), Check(l); level != c.level || digits != c.digits || check != c.check {
			t.Errorf("%x: %d, %v, %d", l, level, digits, check)
		}
		if !slices.Equal(room, was) {
			t.Errorf("%x has become %x", was, room)
		}
	}
}

func TestScriptsAreNew(t *testing.T) {
	for _, c := range labels {
		a, b := Scripts(c.l), Scripts(c.l)
		clear(a[:cap(a)])
		if !slices.Equal(b, c.scripts) || !slices.Equal(Scripts(c.l), c.scripts) {
			t.Errorf("Scripts(%x) has become %d", c.l, b)
		}
	}
}
