package ucd

import (
	"math"
	"slices"
	"strconv"
	"strings"
	"testing"

	"fascia/api"
)

// none: what is known of a code point that is in no row.
var none = api.Prop{Cat: 0, Bidi: 0, Join: 0, CCC: 0, Script: 0, Digits: 0, Width: 1}

// numbers: those of the names of each column, as they stand in api/ucd.go.
var numbers = []map[string]uint8{
	{"lower": 1, "upper": 2, "letter": 3, "mark": 4, "digit": 5, "punct": 6, "symbol": 7, "space": 8, "control": 9, "format": 10},
	{"L": 0, "R": 1, "AL": 2, "EN": 3, "ES": 4, "ET": 5, "AN": 6, "CS": 7, "NSM": 8, "BN": 9, "B": 10, "S": 11, "WS": 12, "ON": 13,
		"LRE": 14, "RLE": 15, "PDF": 16, "LRO": 17, "RLO": 18, "LRI": 19, "RLI": 20, "FSI": 21, "PDI": 22},
	{"none": 0, "cause": 1, "clear": 2, "dual": 3, "left": 4, "right": 5},
	nil,
	{"Common": 0, "Inherited": 1, "Latin": 2, "Greek": 3, "Cyrillic": 4, "Hebrew": 5, "Arabic": 6, "Devanagari": 7, "Han": 8, "Hiragana": 9, "Katakana": 10, "Hangul": 11},
	{"-": 0, "ascii": 1, "arabic": 2, "east": 3, "deva": 4, "wide": 5},
	nil,
}

// wanted reads the document's table.
func wanted(t *testing.T) []api.Range {
	t.Helper()
	read := func(text string, base int) int64 {
		n, err := strconv.ParseInt(text, base, 32)
		if err != nil {
			t.Fatal(err)
		}
		return n
	}
	var out []api.Range
	for _, line := range strings.Split(strings.TrimSpace(document), "\n") {
		f := strings.Fields(line)
		if len(f) != 9 {
			t.Fatalf("%q has %d columns", line, len(f))
		}
		var p [7]uint8
		for i, text := range f[2:] {
			if numbers[i] == nil {
				p[i] = uint8(read(text, 10))
				continue
			}
			n, ok := numbers[i][text]
			if !ok {
				t.Fatalf("%q: what is %q?", line, text)
			}
			p[i] = n
		}
		out = append(out, api.Range{
			From: rune(read(f[0], 16)), To: rune(read(f[1], 16)),
			Prop: api.Prop{Cat: p[0], Bidi: p[1], Join: p[2], CCC: p[3], Script: p[4], Digits: p[5], Width: p[6]},
		})
	}
	return out
}

// looked finds r by looking at every row.
func looked(rows []api.Range, r rune) api.Prop {
	for _, w := range rows {
		if w.From <= r && r <= w.To {
			return w.Prop
		}
	}
	return none
}

// P2.1

func TestOfOrdinary(t *testing.T) {
	for _, x := range []struct {
		r rune
		p api.Prop
	}{
		// the chapter's examples
		{0x0041, api.Prop{Cat: api.CatUpper, Bidi: api.BidiL, Join: api.JoinNone, CCC: 0, Script: api.Latin, Digits: api.DigitsNone, Width: 1}},
		{0x0301, api.Prop{Cat: api.CatMark, Bidi: api.BidiNSM, Join: api.JoinClear, CCC: 230, Script: api.Inherited, Digits: api.DigitsNone, Width: 0}},
		{0x0660, api.Prop{Cat: api.CatDigit, Bidi: api.BidiAN, Join: api.JoinNone, CCC: 0, Script: api.Arabic, Digits: api.DigitsArabic, Width: 1}},
		{0xE000, none},
		// one for each name that these lack
		{'a', api.Prop{Cat: api.CatLower, Script: api.Latin, Width: 1}},
		{'7', api.Prop{Cat: api.CatDigit, Bidi: api.BidiEN, Digits: api.DigitsASCII, Width: 1}},
		{'-', api.Prop{Cat: api.CatPunct, Bidi: api.BidiES, Width: 1}},
		{'%', api.Prop{Cat: api.CatPunct, Bidi: api.BidiET, Width: 1}},
		{'/', api.Prop{Cat: api.CatPunct, Bidi: api.BidiCS, Width: 1}},
		{'<', api.Prop{Cat: api.CatSymbol, Bidi: api.BidiON, Width: 1}},
		{' ', api.Prop{Cat: api.CatSpace, Bidi: api.BidiWS, Width: 1}},
		{'\t', api.Prop{Cat: api.CatControl, Bidi: api.BidiS}},
		{'\n', api.Prop{Cat: api.CatControl, Bidi: api.BidiB}},
		{0x00AD, api.Prop{Cat: api.CatFormat, Bidi: api.BidiBN}},
		{0x0338, api.Prop{Cat: api.CatMark, Bidi: api.BidiNSM, Join: api.JoinClear, CCC: 1, Script: api.Inherited}},
		{0x03B1, api.Prop{Cat: api.CatLower, Script: api.Greek, Width: 1}},
		{0x0410, api.Prop{Cat: api.CatUpper, Script: api.Cyrillic, Width: 1}},
		{0x05D0, api.Prop{Cat: api.CatLetter, Bidi: api.BidiR, Script: api.Hebrew, Width: 1}},
		{0x0627, api.Prop{Cat: api.CatLetter, Bidi: api.BidiAL, Join: api.JoinRight, Script: api.Arabic, Width: 1}},
		{0x0628, api.Prop{Cat: api.CatLetter, Bidi: api.BidiAL, Join: api.JoinDual, Script: api.Arabic, Width: 1}},
		{0x0640, api.Prop{Cat: api.CatLetter, Bidi: api.BidiAL, Join: api.JoinCause, Script: api.Common, Width: 1}},
		{0x06F5, api.Prop{Cat: api.CatDigit, Bidi: api.BidiEN, Script: api.Arabic, Digits: api.DigitsEast, Width: 1}},
		{0x0903, api.Prop{Cat: api.CatMark, Bidi: api.BidiL, Script: api.Devanagari, Width: 1}},
		{0x0966, api.Prop{Cat: api.CatDigit, Script: api.Devanagari, Digits: api.DigitsDeva, Width: 1}},
		{0x200D, api.Prop{Cat: api.CatFormat, Bidi: api.BidiBN, Join: api.JoinCause, Script: api.Inherited}},
		{0x202A, api.Prop{Cat: api.CatFormat, Bidi: api.BidiLRE, Join: api.JoinClear}},
		{0x202B, api.Prop{Cat: api.CatFormat, Bidi: api.BidiRLE, Join: api.JoinClear}},
		{0x202C, api.Prop{Cat: api.CatFormat, Bidi: api.BidiPDF, Join: api.JoinClear}},
		{0x202D, api.Prop{Cat: api.CatFormat, Bidi: api.BidiLRO, Join: api.JoinClear}},
		{0x202E, api.Prop{Cat: api.CatFormat, Bidi: api.BidiRLO, Join: api.JoinClear}},
		{0x2066, api.Prop{Cat: api.CatFormat, Bidi: api.BidiLRI}},
		{0x2067, api.Prop{Cat: api.CatFormat, Bidi: api.BidiRLI}},
		{0x2068, api.Prop{Cat: api.CatFormat, Bidi: api.BidiFSI}},
		{0x2069, api.Prop{Cat: api.CatFormat, Bidi: api.BidiPDI}},
		{0x3042, api.Prop{Cat: api.CatLetter, Script: api.Hiragana, Width: 2}},
		{0x30A2, api.Prop{Cat: api.CatLetter, Script: api.Katakana, Width: 2}},
		{0x4E00, api.Prop{Cat: api.CatLetter, Script: api.Han, Width: 2}},
		{0xD7A3, api.Prop{Cat: api.CatLetter, Script: api.Hangul, Width: 2}},
		{0xFF13, api.Prop{Cat: api.CatDigit, Bidi: api.BidiEN, Digits: api.DigitsWide, Width: 2}},
		{0xFFFD, api.Prop{Cat: api.CatSymbol, Bidi: api.BidiON, Width: 1}},
	} {
		if got := Of(x.r); got != x.p {
			t.Errorf("Of(%x) = %v, want %v", x.r, got, x.p)
		}
	}
}

func TestOfEdges(t *testing.T) {
	rows := wanted(t)
	for _, w := range rows {
		for _, r := range []rune{w.From - 1, w.From, w.From + 1, (w.From + w.To) / 2, w.To - 1, w.To, w.To + 1} {
			if got, want := Of(r), looked(rows, r); got != want {
				t.Errorf("Of(%x) = %v, want %v", r, got, want)
			}
		}
	}
}

func TestOfAll(t *testing.T) {
	rows := wanted(t)
	for r := rune(-0x1000); r <= 0x11000; r++ {
		if got, want := Of(r), looked(rows, r); got != want {
			t.Fatalf("Of(%x) = %v, want %v", r, got, want)
		}
	}
	for r := rune(0x11000); r <= 0x120000; r++ {
		if got := Of(r); got != none {
			t.Fatalf("Of(%x) = %v, want %v", r, got, none)
		}
	}
}

func TestOfNowhere(t *testing.T) {
	for _, r := range []rune{
		math.MinInt32, math.MinInt32 + 1, -0x10000, -0x41, -2, -1,
		0x00A1, 0x00A6, 0x00A8, 0x00AA, 0x0100, 0x0130, 0x0132, 0x02FF, 0x03A2, 0x05EB, 0x0659, 0x2065, 0x206A,
		0xA000, 0xABFF, 0xD7A4, 0xD800, 0xDFFF, 0xE000, 0xFEFE, 0xFF00, 0xFFFC, 0xFFFE, 0xFFFF,
		0x10000, 0x10041, 0x1F600, 0x20041, 0x10FFFF, 0x110000, 0x110041, math.MaxInt32 - 1, math.MaxInt32,
	} {
		if got := Of(r); got != none {
			t.Errorf("Of(%x) = %v, want %v", r, got, none)
		}
	}
}

// P2.2

func TestTable(t *testing.T) {
	got, want := Table(), wanted(t)
	if len(got) != 166 || len(want) != 166 {
		t.Fatalf("%d rows, and %d in the document, want 166", len(got), len(want))
	}
	for i := range want {
		if got[i] != want[i] {
			t.Errorf("row %d is %v, want %v", i, got[i], want[i])
		}
	}
}

func TestTableIsNew(t *testing.T) {
	one, two := Table(), Table()
	spare := one[len(one):cap(one)]
	for i := range spare {
		spare[i].To = -7
	}
	for i := range one {
		one[i] = api.Range{From: -5, To: -3}
	}
	want := wanted(t)
	if !slices.Equal(two, want) || !slices.Equal(Table(), want) {
		t.Error("tables share memory")
	}
	if Of('A') != want[24].Prop || Of(-4) != none {
		t.Error("a table that is changed changes the properties")
	}
}

// TestColumns: a row that is longer or shorter would move all behind it.
func TestColumns(t *testing.T) {
	if len(table) != rowCount*rowSize {
		t.Fatalf("%d bytes are no rows of %d", len(table), rowSize)
	}
	for i := range rowCount {
		if text := row(i); strings.Index(text, "\n") != rowSize-1 {
			t.Errorf("row %d is %q", i, text)
		}
	}
}

// P2.3

func TestBracket(t *testing.T) {
	pairs := [][2]rune{{0x28, 0x29}, {0x5B, 0x5D}, {0x7B, 0x7D}, {0x2329, 0x232A}, {0x3008, 0x3009}, {0x300C, 0x300D}, {0xFF08, 0xFF09}}
	known := map[rune]int{}
	for i, p := range pairs {
		known[p[0]], known[p[1]] = i, i
		if other, opens, ok := Bracket(p[0]); other != p[1] || !opens || !ok {
			t.Errorf("Bracket(%x) = %x, %v, %v", p[0], other, opens, ok)
		}
		if other, opens, ok := Bracket(p[1]); other != p[0] || opens || !ok {
			t.Errorf("Bracket(%x) = %x, %v, %v", p[1], other, opens, ok)
		}
	}
	see := func(r rune) {
		if _, is := known[r]; is {
			return
		}
		if other, opens, ok := Bracket(r); other != 0 || opens || ok {
			t.Errorf("Bracket(%x) = %x, %v, %v", r, other, opens, ok)
		}
	}
	for r := rune(-0x11000); r <= 0x110000; r++ {
		see(r)
	}
	// also what others take for brackets
	for _, r := range []rune{'<', '>', 0xAB, 0xBB, 0x2018, 0x2019, 0x5C, 0x7C, 0x300A, 0x300B, 0xFF3B, 0xFF5D, 0x10028, math.MinInt32, math.MaxInt32} {
		see(r)
	}
}

// P2.4

func TestIncreasing(t *testing.T) {
	before := rune(-1)
	for i, w := range Table() {
		if w.From <= before || w.To < w.From {
			t.Errorf("row %d, from %x to %x, is behind one to %x", i, w.From, w.To, before)
		}
		before = w.To
	}
}

func TestMarks(t *testing.T) {
	for r := rune(0); r <= 0xFFFF; r++ {
		p := Of(r)
		mark, spacing := p.Cat == api.CatMark, p.Width > 0
		if (p.Bidi == api.BidiNSM) != (mark && !spacing) {
			t.Errorf("Of(%x) = %v", r, p)
		}
		if p.CCC != 0 && !mark {
			t.Errorf("Of(%x) = %v: a combining class, but no mark", r, p)
		}
	}
}

func TestDigits(t *testing.T) {
	systems := map[uint8][]rune{}
	for r := rune(0); r <= 0xFFFF; r++ {
		p := Of(r)
		if (p.Digits != api.DigitsNone) != (p.Cat == api.CatDigit) {
			t.Errorf("Of(%x) = %v", r, p)
		}
		if p.Digits != api.DigitsNone {
			systems[p.Digits] = append(systems[p.Digits], r)
		}
	}
	zeros := map[uint8]rune{api.DigitsASCII: '0', api.DigitsArabic: 0x660, api.DigitsEast: 0x6F0, api.DigitsDeva: 0x966, api.DigitsWide: 0xFF10}
	if len(systems) != len(zeros) {
		t.Errorf("%d systems, want %d", len(systems), len(zeros))
	}
	for s, zero := range zeros {
		l := systems[s]
		if len(l) != 10 || l[0] != zero || l[9] != zero+9 {
			t.Errorf("digits of system %d are %x", s, l)
		}
	}
}

func TestTableAndOf(t *testing.T) {
	for _, w := range Table() {
		for r := w.From; r <= w.To; r++ {
			if Of(r) != w.Prop {
				t.Fatalf("Of(%x) = %v, in the row of %v", r, Of(r), w.Prop)
			}
		}
	}
}
