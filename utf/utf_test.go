package utf

import (
	"bytes"
	"math"
	"slices"
	"testing"
	"unicode/utf8"

	"fascia/api"
)

// code is a short form of what Codes is to return.
func code(r rune, from, to int) api.Code { return api.Code{R: r, From: from, To: to} }

// notScalars: the edges of what is no scalar, and numbers far away.
var notScalars = []rune{0xD800, 0xD801, 0xDBFF, 0xDC00, 0xDFFE, 0xDFFF, -1, -2, -0x41, -0xFFFD, math.MinInt32, 0x110000, 0x110001, 0x1FFFFF, 0x200000, math.MaxInt32}

// rows: scalars at the ends of each row of the table of encodings.
var rows = []struct {
	r rune
	b string
}{
	{0, "\x00"}, {1, "\x01"}, {'A', "A"}, {0x7E, "\x7E"}, {0x7F, "\x7F"},
	{0x80, "\xC2\x80"}, {0x81, "\xC2\x81"}, {0xE9, "\xC3\xA9"}, {0x7FE, "\xDF\xBE"}, {0x7FF, "\xDF\xBF"},
	{0x800, "\xE0\xA0\x80"}, {0xFFF, "\xE0\xBF\xBF"}, {0x1000, "\xE1\x80\x80"}, {0x20AC, "\xE2\x82\xAC"}, {0xCFFF, "\xEC\xBF\xBF"},
	{0xD000, "\xED\x80\x80"}, {0xD7FF, "\xED\x9F\xBF"}, {0xE000, "\xEE\x80\x80"}, {0xFFFD, "\xEF\xBF\xBD"}, {0xFFFF, "\xEF\xBF\xBF"},
	{0x10000, "\xF0\x90\x80\x80"}, {0x1F600, "\xF0\x9F\x98\x80"}, {0x3FFFF, "\xF0\xBF\xBF\xBF"}, {0x40000, "\xF1\x80\x80\x80"},
	{0xFFFFF, "\xF3\xBF\xBF\xBF"}, {0x100000, "\xF4\x80\x80\x80"}, {0x10FFFF, "\xF4\x8F\xBF\xBF"},
}

// P1.1

func TestScalar(t *testing.T) {
	for r := rune(-0x20000); r <= 0x120000; r++ {
		want := 0 <= r && r <= 1114111 && !(55296 <= r && r <= 57343)
		if Scalar(r) != want {
			t.Fatalf("Scalar(%x) = %v", r, !want)
		}
	}
	for _, r := range notScalars {
		if Scalar(r) {
			t.Errorf("Scalar(%x) = true", r)
		}
	}
}

func TestEncodeRows(t *testing.T) {
	var all []rune
	var want []byte
	for _, x := range rows {
		if got := Encode([]rune{x.r}); string(got) != x.b {
			t.Errorf("Encode(%x) = %x, want %x", x.r, got, x.b)
		}
		all = append(all, x.r)
		want = append(want, x.b...)
	}
	if got := Encode(all); !bytes.Equal(got, want) {
		t.Errorf("Encode(all rows) = %x, want %x", got, want)
	}
}

func TestEncodeNotScalars(t *testing.T) {
	for _, r := range notScalars {
		if got := Encode([]rune{'a', r, 'b'}); string(got) != "a\xEF\xBF\xBDb" {
			t.Errorf("Encode(a %x b) = %x", r, got)
		}
	}
	for r := rune(0xD800); r <= 0xDFFF; r++ {
		if got := Encode([]rune{r}); string(got) != "\xEF\xBF\xBD" {
			t.Fatalf("Encode(%x) = %x", r, got)
		}
	}
}

func TestEncodeAllScalars(t *testing.T) {
	for r := rune(0); r <= api.MaxRune; r++ {
		if want := utf8.AppendRune(nil, r); !bytes.Equal(Encode([]rune{r}), want) {
			t.Fatalf("Encode(%x) = %x, want %x", r, Encode([]rune{r}), want)
		}
	}
}

func TestEncodeNothing(t *testing.T) {
	if len(Encode(nil)) != 0 || len(Encode([]rune{})) != 0 {
		t.Error("nothing is encoded as something")
	}
}

// P1.2

func TestCodes(t *testing.T) {
	for _, x := range []struct {
		b    string
		want []api.Code
	}{
		{"", nil},
		{"a\x00b", []api.Code{code('a', 0, 1), code(0, 1, 2), code('b', 2, 3)}},
		{"\xC3\xA9\xE2\x82\xAC\xF0\x9F\x98\x80", []api.Code{code(0xE9, 0, 2), code(0x20AC, 2, 5), code(0x1F600, 5, 9)}},
		// the chapter's examples
		{"\xE2\x82\xAC", []api.Code{code(0x20AC, 0, 3)}},
		{"\xE2\x82A", []api.Code{code(api.Bad, 0, 2), code('A', 2, 3)}},
		{"\xF0\x80", []api.Code{code(api.Bad, 0, 1), code(api.Bad, 1, 2)}},
		{"\xED\xA0\x80", []api.Code{code(api.Bad, 0, 1), code(api.Bad, 1, 2), code(api.Bad, 2, 3)}},
		{"\xFF", []api.Code{code(api.Bad, 0, 1)}},
		// cut off, by the end and by what follows
		{"\xC3", []api.Code{code(api.Bad, 0, 1)}},
		{"\xE2", []api.Code{code(api.Bad, 0, 1)}},
		{"\xE2\x82", []api.Code{code(api.Bad, 0, 2)}},
		{"\xF0\x9F\x98", []api.Code{code(api.Bad, 0, 3)}},
		{"\xF0\x9F\x98\xE2\x82\xAC", []api.Code{code(api.Bad, 0, 3), code(0x20AC, 3, 6)}},
		{"\xF0\x9F\xF0\x9F\x98\x80", []api.Code{code(api.Bad, 0, 2), code(0x1F600, 2, 6)}},
		{"\xE2\x82\xC3\xA9", []api.Code{code(api.Bad, 0, 2), code(0xE9, 2, 4)}},
		{"\xC3\xC3\xA9", []api.Code{code(api.Bad, 0, 1), code(0xE9, 1, 3)}},
		// bytes behind a whole encoding
		{"\xC3\xA9\x80", []api.Code{code(0xE9, 0, 2), code(api.Bad, 2, 3)}},
		{"A\x80", []api.Code{code('A', 0, 1), code(api.Bad, 1, 2)}},
		// U+FFFD, encoded
		{"\xEF\xBF\xBD\xEF\xBF", []api.Code{code(api.Bad, 0, 3), code(api.Bad, 3, 5)}},
	} {
		if got := Codes([]byte(x.b)); !slices.Equal(got, x.want) {
			t.Errorf("Codes(%x) = %v, want %v", x.b, got, x.want)
		}
	}
}

// TestSecondByte: behind each first byte, each second one.
func TestSecondByte(t *testing.T) {
	limits := func(a int) (low, high int) {
		switch {
		case a == 0xE0:
			return 0xA0, 0xBF
		case a == 0xED:
			return 0x80, 0x9F
		case a == 0xF0:
			return 0x90, 0xBF
		case a == 0xF4:
			return 0x80, 0x8F
		case 0xC2 <= a && a <= 0xF4:
			return 0x80, 0xBF
		}
		return 1, 0
	}
	for a := 0x80; a <= 0xFF; a++ {
		low, high := limits(a)
		for c := 0; c <= 0xFF; c++ {
			want := 1
			if low <= c && c <= high {
				want = 2
			}
			if got := Codes([]byte{byte(a), byte(c)}); len(got) == 0 || got[0].To != want {
				t.Errorf("Codes(%x %x) = %v, want a first one of %d bytes", a, c, got, want)
			}
		}
	}
}

// prefixes: all bytes that an encoding begins with, and the scalars of those that are whole.
func prefixes() (parts map[string]bool, whole map[string]rune) {
	parts, whole = map[string]bool{}, map[string]rune{}
	for r := rune(0); r <= api.MaxRune; r++ {
		if 0xD800 <= r && r <= 0xDFFF {
			continue
		}
		b := string(r)
		whole[b] = r
		for n := 1; n <= len(b); n++ {
			parts[b[:n]] = true
		}
	}
	return parts, whole
}

// divided follows the chapter's words, from the first byte on.
func divided(b string, parts map[string]bool, whole map[string]rune) (out []api.Code, valid bool) {
	valid = true
next:
	for from := 0; from < len(b); {
		for n := 1; n <= 4 && from+n <= len(b); n++ {
			if r, ok := whole[b[from:from+n]]; ok {
				out = append(out, code(r, from, from+n))
				from += n
				continue next
			}
		}
		n := 1
		for from+n < len(b) && parts[b[from:from+n+1]] {
			n++
		}
		out = append(out, code(api.Bad, from, from+n))
		from += n
		valid = false
	}
	return out, valid
}

// edges: bytes on both sides of each limit.
const edges = "\x00A\x7F\x80\x8F\x90\x9F\xA0\xBF\xC0\xC1\xC2\xDF\xE0\xE1\xEC\xED\xEE\xEF\xF0\xF1\xF3\xF4\xF5\xFF"

// eachText calls see with all texts of the bytes of edges of up to n bytes.
func eachText(n int, see func(b []byte)) {
	var grow func(b []byte)
	grow = func(b []byte) {
		see(b)
		if len(b) == n {
			return
		}
		for i := range len(edges) {
			grow(append(b, edges[i]))
		}
	}
	grow(make([]byte, 0, n))
}

func TestDivision(t *testing.T) {
	parts, whole := prefixes()
	bad := 0
	eachText(4, func(b []byte) {
		want, valid := divided(string(b), parts, whole)
		if got := Codes(b); !slices.Equal(got, want) || Valid(b) != valid {
			if bad++; bad < 20 {
				t.Errorf("Codes(%x) = %v, %v; want %v, %v", b, got, Valid(b), want, valid)
			}
		}
	})
}

func TestDecode(t *testing.T) {
	for _, x := range []struct {
		b    string
		want []rune
	}{
		{"", nil},
		{"aé", []rune{'a', 0xE9}},
		{"\xD7\xA9\xEF\xBF\xBD", []rune{0x5E9, api.Bad}},
		{"\xE2\x82A", []rune{api.Bad, 'A'}},
		{"\xF4\x90\x80\x80", []rune{api.Bad, api.Bad, api.Bad, api.Bad}},
		{"\xF4\x8F\xBF\xBF", []rune{0x10FFFF}},
	} {
		if got := Decode([]byte(x.b)); !slices.Equal(got, x.want) {
			t.Errorf("Decode(%x) = %x, want %x", x.b, got, x.want)
		}
	}
	eachText(3, func(b []byte) {
		var want []rune
		for _, c := range Codes(b) {
			want = append(want, c.R)
		}
		if got := Decode(b); !slices.Equal(got, want) {
			t.Errorf("Decode(%x) = %x, want %x", b, got, want)
		}
	})
}

func TestValid(t *testing.T) {
	for _, x := range rows {
		if !Valid([]byte(x.b)) {
			t.Errorf("Valid(%x) = false", x.b)
		}
	}
	for _, b := range []string{"", "abc", "\xEF\xBF\xBD", "a\xEF\xBF\xBDb"} {
		if !Valid([]byte(b)) {
			t.Errorf("Valid(%x) = false", b)
		}
	}
	for _, b := range []string{"\x80", "\xFF", "\xC0\x80", "\xC1\xBF", "\xE0\x9F\xBF", "\xED\xA0\x80", "\xED\xBF\xBF", "\xF0\x8F\xBF\xBF", "\xF4\x90\x80\x80", "\xF5\x80\x80\x80", "\xE2\x82", "\xF0\x9F\x98", "a\xC3", "\xEF\xBF\xBD\x80", "\xFFa"} {
		if Valid([]byte(b)) {
			t.Errorf("Valid(%x) = true", b)
		}
	}
}

// P1.3

func TestScalarsAgain(t *testing.T) {
	var all []rune
	for r := rune(0); r <= api.MaxRune; r++ {
		if r < 0xD800 || r > 0xDFFF {
			all = append(all, r)
		}
	}
	b := Encode(all)
	if !Valid(b) || !slices.Equal(Decode(b), all) {
		t.Error("all scalars, encoded and decoded, are others")
	}
	for _, r := range all {
		if got := Decode(Encode([]rune{r})); len(got) != 1 || got[0] != r {
			t.Fatalf("%x is decoded as %x", r, got)
		}
	}
}

func TestBytesAgain(t *testing.T) {
	eachText(4, func(b []byte) {
		if again := Encode(Decode(b)); bytes.Equal(again, b) != utf8.Valid(b) || Valid(b) != utf8.Valid(b) {
			t.Fatalf("%x, valid: %v, is again %x", b, Valid(b), again)
		}
	})
}

func TestNoGaps(t *testing.T) {
	eachText(4, func(b []byte) {
		at := 0
		for _, c := range Codes(b) {
			if c.From != at || c.To <= c.From {
				t.Fatalf("Codes(%x) = %v", b, Codes(b))
			}
			at = c.To
		}
		if at != len(b) {
			t.Fatalf("Codes(%x) ends at %d", b, at)
		}
	})
}

func TestOrder(t *testing.T) {
	var before []byte
	for r := rune(0); r <= api.MaxRune; r++ {
		if r >= 0xD800 && r <= 0xDFFF {
			continue
		}
		now := Encode([]rune{r})
		if r > 0 && bytes.Compare(before, now) >= 0 {
			t.Fatalf("%x, of %x, is not behind %x", now, r, before)
		}
		before = now
	}
}

// R3

func TestArgumentsAreKept(t *testing.T) {
	const text = "a\xC3\xA9\xE2\x82\xFF\xF0\x9F\x98\x80 and more"
	b := []byte(text)
	part := b[:6]
	Codes(part)
	Decode(part)
	Valid(part)
	if string(b) != text {
		t.Errorf("bytes have become %x", b)
	}
	l := []rune{'a', 0xD800, -1, 0x10FFFF, 'x', 'y'}
	was := slices.Clone(l)
	Encode(l[:3])
	if !slices.Equal(l, was) {
		t.Errorf("code points have become %x", l)
	}
}

func TestResultsAreNew(t *testing.T) {
	b, l := []byte("abc"), []rune("abc")
	c1, c2 := Codes(b), Codes(b)
	c1[0].R = 'x'
	d1, d2 := Decode(b), Decode(b)
	d1[0] = 'x'
	e1, e2 := Encode(l), Encode(l)
	e1[0] = 'x'
	if c2[0].R != 'a' || d2[0] != 'a' || e2[0] != 'a' || string(b) != "abc" || l[0] != 'a' {
		t.Error("results share memory")
	}
}
