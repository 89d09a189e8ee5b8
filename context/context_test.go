package context

import (
	"math"
	"slices"
	"testing"

	"fascia/api"
	"fascia/sample"
	"fascia/ucd"
)

// far: numbers that are no scalar, those at the ends of what there is, and those that are one of the chapter's in their lower bits.
var far = []rune{-1, -2, -0xB7, -0x200C, -0x660, math.MinInt32, math.MinInt32 + 1, math.MinInt32 + 0x200D, 0xD800, 0xDFFF, 0xE000, 0xFFFF, 0x1006C, 0x100B7, 0x10375, 0x105F3, 0x10660, 0x106F0, 0x1094D, 0x1200C, 0x130FB, 0x10FFFF, 0x110000, 0x1100B7, 0x11200D, math.MaxInt32 - 1, math.MaxInt32}

// eachRune calls see with all code points up to 10FFF, numbers before them, and those far off.
func eachRune(see func(rune)) {
	sample.Runes(-0x1000, 0x10FFF, far, see)
}

// hasRow reports whether the chapter's table has r.
func hasRow(r rune) bool {
	return slices.Contains([]rune{0x200D, 0x200C, 0xB7, 0x375, 0x5F3, 0x5F4, 0x30FB}, r) || 0x660 <= r && r <= 0x669 || 0x6F0 <= r && r <= 0x6F9
}

// lists calls see with lists that have each of the chapter's code points among its neighbours.
func lists(see func([]rune)) {
	sample.Lists(6, []rune{0x628, 0x627, 0x64E, 0x94D, 0x200C, 0x200D}, see)
	sample.Lists(6, []rune{'l', 'L', 0xB7, 0x375, 0x3B1}, see)
	sample.Lists(6, []rune{0x30FB, 0x660, 0x6F9, 0x3042, 0x30FC}, see)
	sample.Lists(3, []rune{'a', 'l', 0xB7, 0x301, 0x375, 0x3B1, 0x5B4, 0x5D0, 0x5F3, 0x5F4, 0x61C, 0x621, 0x628, 0x627, 0x640, 0x660, 0x669, 0x6F0, 0x6F9, 0x94D, 0x200C, 0x200D, 0x3005, 0x30A2, 0x30FB, 0x4E00, -1, 0x110000}, see)
}

// places: a label, a position, and the clause that is violated there.
var places = []struct {
	l    []rune
	i    int
	want uint8
}{
	// the chapter's
	{[]rune{0x915, 0x94D, 0x200D}, 2, 0},
	{[]rune{0x915, 0x200D}, 1, api.ClauseJoin},
	{[]rune{0x628, 0x200C, 0x628}, 1, 0},
	{[]rune{0x627, 0x200C, 0x628}, 1, api.ClauseJoin},
	{[]rune{0x6C, 0xB7, 0x6C}, 1, 0},
	{[]rune{0x61, 0xB7, 0x6C}, 1, api.ClauseContext},
	{[]rune{0x375, 0x3B1}, 0, 0},
	{[]rune{0x5D0, 0x5F3}, 1, 0},
	{[]rune{0x5F3}, 0, api.ClauseContext},
	{[]rune{0x30FB, 0x30A2}, 0, 0},
	{[]rune{0x30FB, 0x61}, 0, api.ClauseContext},
	{[]rune{0x661, 0x6F1}, 0, api.ClauseContext},
	{[]rune{0x661, 0x6F1}, 1, api.ClauseContext},
	// a joiner: the one right before it counts, and its class alone
	{[]rune{0x200D}, 0, api.ClauseJoin},
	{[]rune{0x200D, 0x94D}, 0, api.ClauseJoin},
	{[]rune{0x94D, 0x200D}, 1, 0},
	{[]rune{0x94D, 0x64E, 0x200D}, 2, api.ClauseJoin},
	{[]rune{0x94D, 0x200D, 0x200D}, 2, api.ClauseJoin},
	{[]rune{0x93C, 0x200D}, 1, api.ClauseJoin},  // class 7
	{[]rune{0x3099, 0x200D}, 1, api.ClauseJoin}, // class 8
	{[]rune{0x628, 0x200D, 0x628}, 1, api.ClauseJoin},
	// a non-joiner: the same
	{[]rune{0x200C}, 0, api.ClauseJoin},
	{[]rune{0x94D, 0x200C}, 1, 0},
	{[]rune{0x94D, 0x200C, 'a'}, 1, 0},
	{[]rune{0x94D, 0x64E, 0x200C}, 2, api.ClauseJoin},
	{[]rune{0x93C, 0x200C}, 1, api.ClauseJoin},
	{[]rune{0x94D, 0x200D, 0x200C}, 2, api.ClauseJoin},
	// or what joins on before it, and what joins back behind it
	{[]rune{0x628, 0x200C, 0x627}, 1, 0},
	{[]rune{0x627, 0x200C, 0x627}, 1, api.ClauseJoin},
	{[]rune{0x640, 0x200C, 0x628}, 1, api.ClauseJoin},
	{[]rune{0x628, 0x200C, 0x640}, 1, api.ClauseJoin},
	{[]rune{0x621, 0x200C, 0x628}, 1, api.ClauseJoin},
	{[]rune{0x628, 0x200C, 0x621}, 1, api.ClauseJoin},
	{[]rune{0x628, 0x200C, 'a'}, 1, api.ClauseJoin},
	{[]rune{'a', 0x200C, 0x628}, 1, api.ClauseJoin},
	{[]rune{0x628, 0x200C}, 1, api.ClauseJoin},
	{[]rune{0x200C, 0x628}, 0, api.ClauseJoin},
	{[]rune{0x628, 0x200C, 0x94D}, 1, api.ClauseJoin},
	// clear ones are skipped, others are not
	{[]rune{0x628, 0x64E, 0x200C, 0x628}, 2, 0},
	{[]rune{0x628, 0x200C, 0x64E, 0x628}, 1, 0},
	{[]rune{0x628, 0x64E, 0x651, 0x301, 0x200C, 0x200B, 0x61C, 0x627}, 4, 0},
	{[]rune{0x627, 0x64E, 0x200C, 0x64E, 0x628}, 2, api.ClauseJoin},
	{[]rune{0x628, 0x64E, 0x200C, 0x64E, 0x621}, 2, api.ClauseJoin},
	{[]rune{0x628, 0x64E, 0x200C, 0x64E}, 2, api.ClauseJoin},
	{[]rune{0x64E, 0x200C, 0x64E, 0x628}, 1, api.ClauseJoin},
	{[]rune{0x628, 0x621, 0x200C, 0x628}, 2, api.ClauseJoin},
	{[]rune{0x628, 0x200C, 0x621, 0x628}, 1, api.ClauseJoin},
	{[]rune{0x628, 0x200C, 0x200C, 0x628}, 1, api.ClauseJoin},
	{[]rune{0x628, 0x200C, 0x200C, 0x628}, 2, api.ClauseJoin},
	{[]rune{0x628, 0x200D, 0x200C, 0x628}, 2, api.ClauseJoin},
	{[]rune{0x628, 0x200C, 0x628, 0x200C, 0x628}, 3, 0},
	// a middle dot: small letters, both, and right beside it
	{[]rune{0xB7}, 0, api.ClauseContext},
	{[]rune{'l', 0xB7}, 1, api.ClauseContext},
	{[]rune{0xB7, 'l'}, 0, api.ClauseContext},
	{[]rune{'l', 0xB7, 'a'}, 1, api.ClauseContext},
	{[]rune{'L', 0xB7, 'l'}, 1, api.ClauseContext},
	{[]rune{'l', 0xB7, 'L'}, 1, api.ClauseContext},
	{[]rune{'l', 0xB7, 0x301, 'l'}, 1, api.ClauseContext},
	{[]rune{'l', 0x301, 0xB7, 'l'}, 2, api.ClauseContext},
	{[]rune{'l', 0xB7, 0xB7, 'l'}, 1, api.ClauseContext},
	{[]rune{'l', 0xB7, 'l', 0xB7, 'l'}, 3, 0},
	// a sign of Greek: what is right behind it
	{[]rune{0x375}, 0, api.ClauseContext},
	{[]rune{0x3B1, 0x375}, 1, api.ClauseContext},
	{[]rune{0x375, 'a'}, 0, api.ClauseContext},
	{[]rune{0x375, 0x301, 0x3B1}, 0, api.ClauseContext},
	{[]rune{0x375, 0x375}, 0, 0},
	{[]rune{0x375, 0x375}, 1, api.ClauseContext},
	{[]rune{0x375, 0x391}, 0, 0},
	{[]rune{0x375, 0x430}, 0, api.ClauseContext},
	// signs of Hebrew: what is right before them
	{[]rune{0x5F4}, 0, api.ClauseContext},
	{[]rune{0x5D0, 0x5F4}, 1, 0},
	{[]rune{0x5F3, 0x5D0}, 0, api.ClauseContext},
	{[]rune{0x5F4, 0x5D0}, 0, api.ClauseContext},
	{[]rune{0x5D0, 0x5B4, 0x5F3}, 2, 0},
	{[]rune{0x5D0, 0x5F3, 0x5F4}, 2, 0},
	{[]rune{0x5D0, 0x301, 0x5F3}, 2, api.ClauseContext},
	{[]rune{0x628, 0x5F3}, 1, api.ClauseContext},
	{[]rune{0x5D0, 'a', 0x5F4}, 2, api.ClauseContext},
	// the middle dot of Katakana: anywhere, and of these scripts alone
	{[]rune{0x30FB}, 0, api.ClauseContext},
	{[]rune{0x30FB, 0x30FC}, 0, api.ClauseContext},
	{[]rune{0x30FB, 0x30FB}, 1, api.ClauseContext},
	{[]rune{0x30FB, 0xAC00}, 0, api.ClauseContext},
	{[]rune{0x30FB, 0x3099}, 0, api.ClauseContext},
	{[]rune{0x30FB, 0x3042}, 0, 0},
	{[]rune{0x30FB, 0x4E00}, 0, 0},
	{[]rune{0x3005, 0x30FB}, 1, 0},
	{[]rune{0x30A2, 'a', 0x30FB}, 2, 0},
	{[]rune{0x30FB, 'a', 'b', 0x3042}, 0, 0},
	// digits of two kinds: anywhere, whichever
	{[]rune{0x660}, 0, 0},
	{[]rune{0x6F9}, 0, 0},
	{[]rune{0x660, 0x669}, 1, 0},
	{[]rune{0x6F0, 0x6F9}, 0, 0},
	{[]rune{0x660, '1', 0x966, 0xFF11}, 0, 0},
	{[]rune{0x6F0, '1', 0x966, 0xFF11}, 0, 0},
	{[]rune{0x669, 'a', 0x6F0}, 0, api.ClauseContext},
	{[]rune{0x669, 'a', 0x6F0}, 1, 0},
	{[]rune{0x669, 'a', 0x6F0}, 2, api.ClauseContext},
	{[]rune{0x6F9, 0x660}, 0, api.ClauseContext},
	{[]rune{0x66A, 0x6F0, 0x6FA, 0x65F, 0x6EF}, 1, 0},
	{[]rune{0x66A, 0x660, 0x6FA, 0x65F, 0x6EF}, 1, 0},
	// others, and where there is none
	{[]rune("a-b"), 1, 0},
	{[]rune{0x94D}, 0, 0},
	{[]rune{0x387}, 0, 0},
	{[]rune{0x200B}, 0, 0},
	{nil, 0, 0},
	{[]rune{0xB7}, 1, 0},
	{[]rune{0xB7}, -1, 0},
	{[]rune{0xB7}, math.MaxInt, 0},
	{[]rune{0xB7}, math.MinInt, 0},
}

// P8.1

func TestAt(t *testing.T) {
	for _, c := range places {
		if got := At(c.l, c.i); got != c.want {
			t.Errorf("At(%x, %d) = %d, want %d", c.l, c.i, got, c.want)
		}
	}
}

func wantAll(t *testing.T, l []rune) {
	t.Helper()
	for i := -1; i <= len(l); i++ {
		if got, want := At(l, i), referenceAt(l, i); got != want {
			t.Fatalf("At(%x, %d) = %d, want %d", l, i, got, want)
		}
	}
}

func TestAtByReference(t *testing.T) {
	lists(func(l []rune) { wantAll(t, l) })
}

// TestAtEachRune: each one alone, and beside each of the chapter's that look at their neighbours.
func TestAtEachRune(t *testing.T) {
	eachRune(func(r rune) {
		wantAll(t, []rune{r})
		for _, l := range [][]rune{{r, 0x200D}, {r, 0x200C}, {r, 0x200C, 0x628}, {0x628, 0x200C, r}, {'l', 0xB7, r}, {r, 0xB7, 'l'}, {0x375, r}, {r, 0x5F3}, {r, 0x5F4}, {0x30FB, r}, {0x660, r}, {0x6F0, r}} {
			for i, x := range l {
				if got, want := At(l, i), referenceAt(l, i); x != r && got != want {
					t.Fatalf("At(%x, %d) = %d, want %d", l, i, got, want)
				}
			}
		}
	})
}

// TestAtSkipsMany: clear ones are skipped, however many there are.
func TestAtSkipsMany(t *testing.T) {
	for last, want := range map[rune]uint8{0x628: 0, 0x627: 0, 0x621: api.ClauseJoin, 'a': api.ClauseJoin, 0x200C: api.ClauseJoin} {
		clear := slices.Repeat([]rune{0x64E}, 100000)
		l := slices.Concat([]rune{0x628}, clear, []rune{0x200C}, clear, []rune{last})
		if got := At(l, 100001); got != want {
			t.Errorf("with %x at its end: %d, want %d", last, got, want)
		}
	}
}

// P8.2

func TestCheck(t *testing.T) {
	for _, c := range []struct {
		l    []rune
		want uint8
	}{
		{nil, 0},
		{[]rune{}, 0},
		{[]rune("abc"), 0},
		{[]rune{0x915, 0x94D, 0x200D, 0x937}, 0},
		{[]rune{'l', 0xB7, 'l', 0xB7, 'l'}, 0},
		{[]rune{0x660, 0x661, 0x660, 0x30FB, 0x30FB, 0x30A2}, 0},
		{[]rune{0x6F0, 0x6F1, 0x6F0}, 0},
		// the first position counts, not the clause
		{[]rune{0xB7, 0x200D}, api.ClauseContext},
		{[]rune{0x200D, 0xB7}, api.ClauseJoin},
		{[]rune{'l', 0xB7, 'l', 0x200C, 0xB7}, api.ClauseJoin},
		{[]rune{0x94D, 0x200D, 0xB7, 0x200D}, api.ClauseContext},
		{[]rune{'a', 0x661, 0x200D, 0x6F1}, api.ClauseContext},
		{[]rune{0x200D, 0x661, 0x6F1}, api.ClauseJoin},
		// what holds once need not hold again
		{[]rune{0x94D, 0x200D, 0x200D}, api.ClauseJoin},
		{[]rune{0x628, 0x200C, 0x628, 0x200C}, api.ClauseJoin},
		{[]rune{'l', 0xB7, 'l', 0xB7}, api.ClauseContext},
		{[]rune{0x375, 0x3B1, 0x375}, api.ClauseContext},
		{[]rune{0x5D0, 0x5F3, 'a', 0x5F3}, api.ClauseContext},
		{[]rune{0x5D0, 0x5F4, 'a', 0x5F4}, api.ClauseContext},
		{[]rune{0x5D0, 0x5F3, 'a', 0x5F4}, api.ClauseContext},
		{[]rune{0x4E00, 0x30FB, 0x30FB, 0xB7}, api.ClauseContext},
	} {
		if got := Check(c.l); got != c.want {
			t.Errorf("Check(%x) = %d, want %d", c.l, got, c.want)
		}
	}
}

func TestCheckByReference(t *testing.T) {
	lists(func(l []rune) {
		if got, want := Check(l), referenceCheck(l); got != want {
			t.Fatalf("Check(%x) = %d, want %d", l, got, want)
		}
	})
}

func TestCheckNoise(t *testing.T) {
	of := []rune{0x628, 0x627, 0x64E, 0x94D, 0x200C, 0x200D, 'l', 0xB7, 0x375, 0x3B1, 0x5D0, 0x5F3, 0x30FB, 0x30A2, 0x660, 0x669}
	next := sample.Noise(8)
	for range 20000 {
		l := sample.Pick(next, next(40), of)
		wantAll(t, l)
		if got, want := Check(l), referenceCheck(l); got != want {
			t.Fatalf("Check(%x) = %d, want %d", l, got, want)
		}
	}
}

// TestCheckLong: what asks for the whole label stands in it again and again.
func TestCheckLong(t *testing.T) {
	const many = 400000
	for _, c := range []struct {
		r, last rune
		want    uint8
	}{
		{0x30FB, 0x4E00, 0}, {0x30FB, 'a', api.ClauseContext},
		{0x660, 'a', 0}, {0x660, 0x6F0, api.ClauseContext}, {0x660, 0x200D, api.ClauseJoin},
		{0x6F9, 'a', 0}, {0x6F9, 0x669, api.ClauseContext}, {0x6F9, 0xB7, api.ClauseContext},
		{0x5F3, 'a', api.ClauseContext}, {'a', 0x200D, api.ClauseJoin}, {'a', 0x5F3, api.ClauseContext},
	} {
		l := append(slices.Repeat([]rune{c.r}, many), c.last)
		if got := Check(l); got != c.want {
			t.Errorf("%x many times, and %x: %d, want %d", c.r, c.last, got, c.want)
		}
	}
}

// P8.3

// around returns where those neighbours of position i begin, and where they end, up to the next ones that are not clear.
func around(l []rune, i int) (from, to int) {
	before, behind := neighbours(l, i)
	from = i - (len(before) - len(skipped(before))) - 1
	to = i + 1 + len(behind) - len(skipped(behind)) + 1
	return max(from, 0), min(to, len(l))
}

func TestNeighboursAlone(t *testing.T) {
	lists(func(l []rune) {
		for i, r := range l {
			if p := ucd.Of(r); p.Digits != api.DigitsNone || r == 0x30FB {
				continue
			}
			from, to := around(l, i)
			if all, near := At(l, i), At(l[from:to], i-from); all != near {
				t.Fatalf("At(%x, %d) = %d, with its neighbours alone %d", l, i, all, near)
			}
		}
	})
}

func TestWithoutThem(t *testing.T) {
	var all []rune
	eachRune(func(r rune) {
		if !hasRow(r) {
			all = append(all, r)
		}
	})
	if got := Check(all); got != 0 {
		t.Errorf("all others violate %d", got)
	}
	for i, r := range all {
		if got := At(all, i); got != 0 {
			t.Fatalf("%x violates %d", r, got)
		}
	}
}

// R3

func TestArgumentIsLeft(t *testing.T) {
	for _, c := range places {
		room := slices.Concat(c.l, []rune{'l', 0x628, 0x3B1, 0x30A2, 0x6F0})
		was := slices.Clone(room)
		At(room[:len(c.l)], c.i)
		Check(room[:len(c.l)])
		if !slices.Equal(room, was) {
			t.Errorf("%x has become %x", was, room)
		}
		// nor is what stands behind its end looked at
		if got := At(room[:len(c.l)], c.i); got != c.want {
			t.Errorf("At(%x, %d) = %d, want %d", c.l, c.i, got, c.want)
		}
	}
}
