package norm

import (
	"math"
	"slices"
	"testing"

	"fascia/api"
	"fascia/sample"
)

// far: numbers that are no scalar, and those at the ends of what there is.
var far = []rune{-1, -2, -0x41, -0xC0, -0xAC00, math.MinInt32, math.MinInt32 + 1, math.MinInt32 + 0xAC00, 0xD7A4, 0xD800, 0xDBFF, 0xDC00, 0xDFFF, 0xE000, 0xFFFD, 0x10000, 0x100C0, 0x12329, 0x1AC00, 0x10FFFF, 0x110000, 0x1100C0, math.MaxInt32 - 1, math.MaxInt32}

// samples: a list, its NFD and its NFC.
var samples = []struct{ l, d, c []rune }{
	// the chapter's
	{[]rune{0xE9, 0x323}, []rune{0x65, 0x323, 0x301}, []rune{0xE9, 0x323}},
	{[]rune{0x65, 0x301, 0x323}, []rune{0x65, 0x323, 0x301}, []rune{0xE9, 0x323}},
	{[]rune{0x1100, 0x1161, 0x11A8}, []rune{0x1100, 0x1161, 0x11A8}, []rune{0xAC01}},
	{[]rune{0x2329}, []rune{0x3008}, []rune{0x3008}},
	{[]rune{0}, []rune{0}, []rune{0}},
	// nothing, and what is as it was
	{nil, nil, nil},
	{[]rune("abc"), []rune("abc"), []rune("abc")},
	{[]rune{'e', 0x323}, []rune{'e', 0x323}, []rune{'e', 0x323}},
	{[]rune{0x3008, 'a', 0x3009}, []rune{0x3008, 'a', 0x3009}, []rune{0x3008, 'a', 0x3009}},
	// singletons are not put back
	{[]rune{0x2329, 'a', 0x232A}, []rune{0x3008, 'a', 0x3009}, []rune{0x3008, 'a', 0x3009}},
	// parts of parts
	{[]rune{0x1D7}, []rune{'U', 0x308, 0x301}, []rune{0x1D7}},
	{[]rune{0xFC, 0x301}, []rune{'u', 0x308, 0x301}, []rune{0x1D8}},
	{[]rune{0x1D8, 0x301}, []rune{'u', 0x308, 0x301, 0x301}, []rune{0x1D8, 0x301}},
	{[]rune{0xFA, 0x308}, []rune{'u', 0x301, 0x308}, []rune{0xFA, 0x308}},
	// the second of one class is kept off, that of another class is not
	{[]rune{'a', 0x305, 0x301}, []rune{'a', 0x305, 0x301}, []rune{'a', 0x305, 0x301}},
	{[]rune{'a', 0x328, 0x301}, []rune{'a', 0x328, 0x301}, []rune{0xE1, 0x328}},
	{[]rune{'c', 0x328, 0x327}, []rune{'c', 0x328, 0x327}, []rune{'c', 0x328, 0x327}},
	{[]rune{'a', 0x323, 0x301, 0x334}, []rune{'a', 0x334, 0x323, 0x301}, []rune{0xE1, 0x334, 0x323}},
	{[]rune{'u', 0x323, 0x308, 0x301}, []rune{'u', 0x323, 0x308, 0x301}, []rune{0x1D8, 0x323}},
	{[]rune{'c', 0x301, 0x334, 0x327}, []rune{'c', 0x334, 0x327, 0x301}, []rune{0xE7, 0x334, 0x301}},
	// marks without a starter, and marks that are starters
	{[]rune{0x301, 0x327}, []rune{0x327, 0x301}, []rune{0x327, 0x301}},
	{[]rune{0x301, 'a', 0x301}, []rune{0x301, 'a', 0x301}, []rune{0x301, 0xE1}},
	{[]rune{'a', 0x902, 0x301}, []rune{'a', 0x902, 0x301}, []rune{'a', 0x902, 0x301}},
	{[]rune{'a', 0x301, 0x902, 0x327}, []rune{'a', 0x301, 0x902, 0x327}, []rune{0xE1, 0x902, 0x327}},
	// code points without a row are starters
	{[]rune{'a', 0xE000, 0x301}, []rune{'a', 0xE000, 0x301}, []rune{'a', 0xE000, 0x301}},
	// syllables
	{[]rune{0xAC00, 0x11A8}, []rune{0x1100, 0x1161, 0x11A8}, []rune{0xAC01}},
	{[]rune{0xAC01}, []rune{0x1100, 0x1161, 0x11A8}, []rune{0xAC01}},
	{[]rune{0xD7A3}, []rune{0x1112, 0x1175, 0x11C2}, []rune{0xD7A3}},
	{[]rune{0xAC00, 0x11A7}, []rune{0x1100, 0x1161, 0x11A7}, []rune{0xAC00, 0x11A7}},
	{[]rune{0xAC01, 0x11A8}, []rune{0x1100, 0x1161, 0x11A8, 0x11A8}, []rune{0xAC01, 0x11A8}},
	{[]rune{0x1100, 0x1100, 0x1161}, []rune{0x1100, 0x1100, 0x1161}, []rune{0x1100, 0xAC00}},
	{[]rune{0x1100, 0x323, 0x1161}, []rune{0x1100, 0x323, 0x1161}, []rune{0x1100, 0x323, 0x1161}},
	{[]rune{0xAC00, 0x323, 0x11A8}, []rune{0x1100, 0x1161, 0x323, 0x11A8}, []rune{0xAC00, 0x323, 0x11A8}},
	{[]rune{0x1161, 0x11A8}, []rune{0x1161, 0x11A8}, []rune{0x1161, 0x11A8}},
	{[]rune{0x1161, 0x1100}, []rune{0x1161, 0x1100}, []rune{0x1161, 0x1100}},
	// other scripts
	{[]rune{0x627, 0x64B, 0x654}, []rune{0x627, 0x64B, 0x654}, []rune{0x623, 0x64B}},
	{[]rune{0x627, 0x653, 0x655}, []rune{0x627, 0x655, 0x653}, []rune{0x625, 0x653}},
	{[]rune{0x929, 0x94D}, []rune{0x928, 0x93C, 0x94D}, []rune{0x929, 0x94D}},
	{[]rune{0x928, 0x94D, 0x93C}, []rune{0x928, 0x93C, 0x94D}, []rune{0x929, 0x94D}},
	{[]rune{0x30AB, 0x3099}, []rune{0x30AB, 0x3099}, []rune{0x30AC}},
	// those that compose elsewhere, but are not among the pairs
	{[]rune{'o', 0x30B}, []rune{'o', 0x30B}, []rune{'o', 0x30B}},
	{[]rune{0x3CA}, []rune{0x3CA}, []rune{0x3CA}},
	{[]rune{0x212B}, []rune{0x212B}, []rune{0x212B}},
	{[]rune{0xFF21, 0x301}, []rune{0xFF21, 0x301}, []rune{0xFF21, 0x301}},
	// numbers that are no scalars
	{[]rune{-1, 0x301, 0xD800, 0x110000}, []rune{-1, 0x301, 0xD800, 0x110000}, []rune{-1, 0x301, 0xD800, 0x110000}},
}

// edges: starters and marks that compose with one another in all ways there are.
var edges = []rune{'u', 0xFC, 0x1D8, 'c', 0x301, 0x308, 0x305, 0x327, 0x334, 0x902, 0x2329, 0x1100, 0x1161, 0x11A8, 0xAC00, 0xAC01}

// marks: two or more of each of some classes, and one that is a starter.
var marks = []rune{0x300, 0x301, 0x302, 0x303, 0x308, 0x30A, 0x323, 0x324, 0x327, 0x328, 0x334, 0x335, 0x653, 0x654, 0x655, 0x64B, 0x5B4, 0x93C, 0x94D, 0x3099, 0x902}

// noisy returns a list of n: marks, what they compose with, parts of syllables, and any others.
func noisy(next func(int) int, n int) []rune {
	bases := []rune("AEIOUaceinouyCN\u0391\u0415\u0627\u0648\u064A\u0928\u0933\u304B\u30AB\u00DC\u00FC")
	var l []rune
	for len(l) < n {
		switch next(8) {
		case 0, 1, 2, 3:
			l = append(l, marks[next(len(marks))])
		case 4, 5:
			l = append(l, bases[next(len(bases))])
		case 6:
			l = append(l, []rune{0x1100, 0x1161, 0x11A8, 0xAC00}[next(4)]+rune(next(30)))
		default:
			l = append(l, rune(next(0x3200)))
		}
	}
	return l
}

// lists calls see with the samples, all short lists of the edges, and many noisy ones.
func lists(see func([]rune)) {
	for _, x := range samples {
		see(x.l)
	}
	sample.Lists(4, edges, see)
	next := sample.Noise(1)
	for i := range 3000 {
		see(noisy(next, i%60))
	}
	see(far)
}

// P5.1

func TestSplit(t *testing.T) {
	for r, want := range map[rune][]rune{
		0x1D8:  {0x75, 0x308, 0x301}, // the chapter's
		0x1D7:  {0x55, 0x308, 0x301},
		0xC0:   {0x41, 0x300},
		0xE9:   {0x65, 0x301},
		0xFF:   {0x79, 0x308},
		0x451:  {0x435, 0x308},
		0x626:  {0x64A, 0x654},
		0x934:  {0x933, 0x93C},
		0x30B0: {0x30AF, 0x3099},
		0x2329: {0x3008},
		0x232A: {0x3009},
		0x3008: {0x3008},
		0xAC00: {0x1100, 0x1161},
		0xAC01: {0x1100, 0x1161, 0x11A8},
		0xAC1B: {0x1100, 0x1161, 0x11C2},
		0xAC1C: {0x1100, 0x1162},
		0xAE4C: {0x1101, 0x1161},
		0xD7A3: {0x1112, 0x1175, 0x11C2},
		0xD7A4: {0xD7A4},
		0xABFF: {0xABFF},
		0x1100: {0x1100},
		0x301:  {0x301},
		'a':    {'a'},
		0:      {0},
		0x1EB9: {0x1EB9}, // composed elsewhere
		0x178:  {0x178},
		0xD8:   {0xD8},
	} {
		if l := Split(r); !slices.Equal(l, want) {
			t.Errorf("Split(%x) = %x, want %x", r, l, want)
		}
	}
}

func TestSplitEach(t *testing.T) {
	ref := newReference()
	for r := rune(-0x11000); r <= api.MaxRune+0x11000; r++ {
		if l, want := Split(r), ref.full(r); !slices.Equal(l, want) {
			t.Fatalf("Split(%x) = %x, want %x", r, l, want)
		}
	}
	for _, r := range far {
		if l := Split(r); !slices.Equal(l, []rune{r}) {
			t.Errorf("Split(%x) = %x", r, l)
		}
	}
}

func TestSplitIsNew(t *testing.T) {
	for _, r := range []rune{'a', 0xE9, 0x1D8, 0x2329, 0xAC01} {
		a, b := Split(r), Split(r)
		clear(a)
		if slices.Equal(a, b) || !slices.Equal(b, Split(r)) {
			t.Errorf("two results of Split(%x) share memory", r)
		}
	}
}

func TestJoin(t *testing.T) {
	for parts, want := range map[[2]rune]rune{
		{0x75, 0x308}:     0xFC, // the chapter's
		{0xFC, 0x301}:     0x1D8,
		{0x41, 0x300}:     0xC0,
		{0x30AF, 0x3099}:  0x30B0,
		{0x1100, 0x1161}:  0xAC00,
		{0xAC00, 0x11A8}:  0xAC01,
		{0x1112, 0x1175}:  0xD788,
		{0xD788, 0x11C2}:  0xD7A3,
		{0x308, 0x75}:     0, // the other way round
		{0x301, 0xFC}:     0,
		{0x1161, 0x1100}:  0,
		{0x11A8, 0xAC00}:  0,
		{0x3008, 0}:       0, // singletons are not composed
		{0, 0x3008}:       0,
		{0x3008, 0x3008}:  0,
		{0, 0}:            0,
		{'a', 0}:          0,
		{0, 0x301}:        0,
		{0x65, 0x323}:     0, // composed elsewhere
		{0x79, 0x300}:     0,
		{0x59, 0x308}:     0,
		{0x1100, 0x1176}:  0, // beyond what syllables have
		{0x1113, 0x1161}:  0,
		{0x10FF, 0x1161}:  0,
		{0x1100, 0x1160}:  0,
		{0xAC00, 0x11A7}:  0,
		{0xAC00, 0x11C3}:  0,
		{0xAC01, 0x11A8}:  0,
		{0xABE4, 0x11A8}:  0,
		{0xD7A4, 0x11A8}:  0,
		{0x1100, 0x11A8}:  0,
		{0xAC00, 0x1161}:  0,
		{0xAC00, 0x1100}:  0,
		{-1, 0x301}:       0,
		{0x65, -0x301}:    0,
		{0x10065, 0x301}:  0,
		{0x65, 0x10301}:   0,
		{-0x1100, 0x1161}: 0,
	} {
		if r, ok := Join(parts[0], parts[1]); r != want || ok != (want != 0) {
			t.Errorf("Join(%x) = %x, %v, want %x", parts, r, ok, want)
		}
	}
}

// TestJoinEach: all parts of pairs and syllables, and what is beside them, with each other.
func TestJoinEach(t *testing.T) {
	ref := newReference()
	for p, want := range ref.whole {
		if r, ok := Join(p[0], p[1]); r != want || !ok {
			t.Fatalf("Join(%x) = %x, %v, want %x", p, r, ok, want)
		}
	}
	l := slices.Clone(far)
	for whole, p := range ref.parts {
		if whole < firstSyllable {
			l = append(l, whole, p[0]-1, p[0], p[0]+1, p[1]-1, p[1], p[1]+1)
		}
	}
	l = append(l, 0, 0x2329, 0x232A, 0x3008, 0x3009, 0xABE4, 0xABFF, 0xAC00, 0xAC01, 0xAC1B, 0xAC1C, 0xD787, 0xD788, 0xD789, 0xD7A3)
	l = append(l, 0x10FF, 0x1100, 0x1101, 0x1112, 0x1113, 0x1160, 0x1161, 0x1175, 0x1176, 0x11A7, 0x11A8, 0x11C2, 0x11C3)
	slices.Sort(l)
	l = slices.Compact(l)
	for _, a := range l {
		for _, b := range l {
			want, is := ref.whole[[2]rune{a, b}]
			if r, ok := Join(a, b); r != want || ok != is {
				t.Fatalf("Join(%x, %x) = %x, %v, want %x, %v", a, b, r, ok, want, is)
			}
		}
	}
}

// P5.2

func TestForms(t *testing.T) {
	for _, x := range samples {
		if l := NFD(x.l); !slices.Equal(l, x.d) {
			t.Errorf("NFD(%x) = %x, want %x", x.l, l, x.d)
		}
		if l := NFC(x.l); !slices.Equal(l, x.c) {
			t.Errorf("NFC(%x) = %x, want %x", x.l, l, x.c)
		}
		if is := Is(x.l); is != slices.Equal(x.l, x.c) {
			t.Errorf("Is(%x) = %v", x.l, is)
		}
	}
}

func TestFormsByReference(t *testing.T) {
	ref := newReference()
	lists(func(l []rune) {
		if got, want := NFD(l), ref.nfd(l); !slices.Equal(got, want) {
			t.Fatalf("NFD(%x) = %x, want %x", l, got, want)
		}
		want := ref.nfc(l)
		if got := NFC(l); !slices.Equal(got, want) {
			t.Fatalf("NFC(%x) = %x, want %x", l, got, want)
		}
		if is := Is(l); is != slices.Equal(l, want) {
			t.Fatalf("Is(%x) = %v", l, is)
		}
	})
}

func TestFormsOfEach(t *testing.T) {
	ref := newReference()
	for r := rune(0); r <= 0x11000; r++ {
		l := []rune{r}
		if d, c := NFD(l), NFC(l); !slices.Equal(d, ref.nfd(l)) || !slices.Equal(c, ref.nfc(l)) || Is(l) != (r != 0x2329 && r != 0x232A) {
			t.Fatalf("%x: NFD %x, NFC %x, Is %v", r, d, c, Is(l))
		}
	}
}

// TestOrderOfOneClass: marks of one class stay as they are, however many there are.
func TestOrderOfOneClass(t *testing.T) {
	var l, want []rune
	for i := range rune(200) {
		l = append(l, 0x300+i%20, 0x323+i%4, 0x334+i%5)
	}
	for _, c := range []uint8{1, 220, 230} {
		for _, r := range l {
			if class(r) == c {
				want = append(want, r)
			}
		}
	}
	if got := NFD(l); !slices.Equal(got, want) {
		t.Errorf("NFD(%x) = %x, want %x", l, got, want)
	}
	if got := NFC(append([]rune{'q'}, l...)); !slices.Equal(got[1:], want) {
		t.Errorf("NFC of q and %x = %x", l, got)
	}
}

// TestLong: lists in which each mark has far to go; exchanged one by one, they would not end in time.
func TestLong(t *testing.T) {
	const n = 300000
	above, below := slices.Repeat([]rune{0x301}, n), slices.Repeat([]rune{0x323}, n)
	l := slices.Concat([]rune{'e'}, above, below)
	if got := NFD(l); !slices.Equal(got, slices.Concat([]rune{'e'}, below, above)) {
		t.Error("NFD")
	}
	if got := NFC(l); !slices.Equal(got, slices.Concat([]rune{0xE9}, below, above[1:])) {
		t.Error("NFC")
	}
	if got := NFC(slices.Repeat([]rune{0x1100, 0x1161, 0x11A8}, n)); !slices.Equal(got, slices.Repeat([]rune{0xAC01}, n)) {
		t.Error("NFC of syllables")
	}
}

func TestArgumentStays(t *testing.T) {
	for _, x := range samples {
		l := append(slices.Clone(x.l), 0x301, 'x', 'y', 'z', 'x', 'y', 'z')
		was := slices.Clone(l)
		part := l[:len(x.l)]
		d, c := NFD(part), NFC(part)
		Is(part)
		if !slices.Equal(l, was) {
			t.Errorf("%x is %x now", was, l)
		}
		clear(d[:cap(d)])
		clear(c[:cap(c)])
		if !slices.Equal(l, was) || !slices.Equal(NFD(part), x.d) || !slices.Equal(NFC(part), x.c) {
			t.Errorf("the results for %x share its memory", was)
		}
	}
}

// P5.3

func TestAgain(t *testing.T) {
	lists(func(l []rune) {
		d, c := NFD(l), NFC(l)
		if !slices.Equal(NFD(d), d) || !slices.Equal(NFC(c), c) || !Is(c) {
			t.Fatalf("%x: NFD %x, again %x; NFC %x, again %x", l, d, NFD(d), c, NFC(c))
		}
		if !slices.Equal(NFD(c), d) || !slices.Equal(NFC(d), c) {
			t.Fatalf("%x: NFD %x, that of the NFC %x; NFC %x, that of the NFD %x", l, d, NFD(c), c, NFC(d))
		}
	})
}

// TestSame: lists have the same NFD exactly if they have the same NFC.
func TestSame(t *testing.T) {
	composed, decomposed := map[string]string{}, map[string]string{}
	sample.Lists(4, edges, func(l []rune) {
		d, c := string(NFD(l)), string(NFC(l))
		if x, ok := composed[d]; ok && x != c {
			t.Fatalf("%x: the NFD is also that of what composes to %q", l, x)
		}
		if x, ok := decomposed[c]; ok && x != d {
			t.Fatalf("%x: the NFC is also that of what decomposes to %q", l, x)
		}
		composed[d], decomposed[c] = c, d
	})
	if len(composed) != len(decomposed) {
		t.Errorf("%d NFDs, but %d NFCs", len(composed), len(decomposed))
	}
}

func TestClassesFallAtStarters(t *testing.T) {
	lists(func(l []rune) {
		d := NFD(l)
		for i := 1; i < len(d); i++ {
			if class(d[i]) < class(d[i-1]) && class(d[i]) != 0 {
				t.Fatalf("NFD(%x) = %x", l, d)
			}
		}
	})
}

// TestAnyOrder: marks of different classes may stand in any order.
func TestAnyOrder(t *testing.T) {
	different := []rune{0x334, 0x93C, 0x64B, 0x327, 0x323, 0x301}
	for _, start := range []rune{'e', 'c', 0xE9, 0x928, 0xAC01} {
		wantD, wantC := NFD(append([]rune{start}, different...)), NFC(append([]rune{start}, different...))
		eachOrder(slices.Clone(different), 0, func(l []rune) {
			l = append([]rune{start}, l...)
			if d, c := NFD(l), NFC(l); !slices.Equal(d, wantD) || !slices.Equal(c, wantC) {
				t.Fatalf("%x: NFD %x, want %x; NFC %x, want %x", l, d, wantD, c, wantC)
			}
		})
	}
}

// eachOrder calls see with l in all orders of what is from at on.
func eachOrder(l []rune, at int, see func([]rune)) {
	if at == len(l) {
		see(l)
		return
	}
	for i := at; i < len(l); i++ {
		l[at], l[i] = l[i], l[at]
		eachOrder(l, at+1, see)
		l[at], l[i] = l[i], l[at]
	}
}
