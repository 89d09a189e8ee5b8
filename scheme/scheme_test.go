package scheme

import (
	"math"
	"slices"
	"strings"
	"testing"

	"fascia/sample"
)

// far: numbers that are no scalar, those at the ends of what there is, those that are a letter or a colon in their lower bits, and letters of other kinds that have one from a to z in another case.
var far = []rune{
	-1, -'a', -':', math.MinInt32, math.MinInt32 + 'a', math.MinInt32 + ':', math.MaxInt32, 0x7FFF0061, 0x7FFF003A,
	0xD800, 0xDFFF, 0xE000, 0xFFFD, 0xFFFF, 0x10FFFF, 0x110000, 0x110061, 0x11003A, 0x10061, 0x1003A, 0x161, 0x13A,
	0x130, 0x131, 0x17F, 0x212A, 0xE9, 0xFF1A, 0xFF21, 0xFF41, 0x661, 0xFF11, 0x2024, 0xFE55, 0x589, 0x5C3, 0x2236,
}

var special = []string{"ftp", "file", "http", "https", "ws", "wss"}

// schemes: texts that are one.
var schemes = []string{
	"a", "z", "m", "ab", "az", "za", "zz", "http", "https", "ftp", "ws", "wss", "file", "mailto", "data", "javascript", "about", "blob",
	"a0", "z9", "a1b2", "a+", "a-", "a.", "a+-.", "a1+-.", "svn+ssh", "a..b", "a--b", "iris.beep", "x-y", "h323", "a0123456789", small, "a" + others,
}

// noSchemes: texts that are none.
var noSchemes = []string{
	"", "0", "9", "1", "1a", "+", "+a", "-", "-a", ".", ".a", "0a", "9z",
	"A", "Z", "HTTP", "aB", "httP", "Http", "hTTP",
	":", "a:", ":a", "a:b", "http:", "http://", "/", "a/", "a/b", "\\", "a\\b",
	" ", " a", "a ", "a b", "\ta", "a\n", "\na", "a\nb", "a\r", "\x00", "a\x00", "\x00a", "a\x7f",
	"a_", "_a", "a_b", "a~", "a!", "a#", "a$", "a%", "a%61", "%61", "a&", "a'", "a(", "a)", "a*", "a,", "a;", "a<", "a=", "a>", "a?", "a@", "a[", "a]", "a^", "a`", "`a", "{a", "a{", "a|", "a}", "a\"",
	"\u00e9", "a\u00e9", "\u00e9a", "\uff41", "a\uff41", "a\u0661", "a\u2024", "\u212a", "a\u212a", "\u017f", "a\u0131", "\ufeffa",
	"\x80", "a\x80", "\xff", "a\xff", "a\xe1", "\xe1", "a\xc3", "a\xba",
}

// P15.1

func TestRight(t *testing.T) {
	for _, s := range schemes {
		if !Right(s) {
			t.Errorf("%q is none", s)
		}
	}
	for _, s := range noSchemes {
		if Right(s) {
			t.Errorf("%q is one", s)
		}
	}
}

// TestRightByEachByte puts each byte first, last and in between.
func TestRightByEachByte(t *testing.T) {
	for c := range 256 {
		b := string([]byte{byte(c)})
		first := strings.Contains(small, b)
		later := strings.Contains(small+others, b)
		for s, want := range map[string]bool{b: first, b + "a": first, "a" + b: later, "a" + b + "a": later, "z9" + b: later, "1" + b: false} {
			if got := Right(s); got != want {
				t.Errorf("Right(%q) = %v", s, got)
			}
		}
	}
}

func TestSpecial(t *testing.T) {
	for s, want := range map[string]int{"ftp": 21, "file": -1, "http": 80, "https": 443, "ws": 80, "wss": 443} {
		if !Special(s) || Port(s) != want {
			t.Errorf("%q: %v, %d", s, Special(s), Port(s))
		}
	}
	for _, s := range []string{
		"", "x", "a", "gopher", "mailto", "about", "blob", "data", "javascript", "sftp", "ftps", "httpss", "filesystem", "wsss", "w", "s", "p",
		"HTTP", "Http", "httP", "FILE", "File", "WS", "wsS", "FTP", "http:", "http://", " http", "http ", "file:", "ws\x00", "\x00ws", "80", "21", "443", "-1", "http\n", "http,ws", "\uff48ttp", "w\u017f", "h\xffttp",
	} {
		if Special(s) || Port(s) != -1 {
			t.Errorf("%q: %v, %d", s, Special(s), Port(s))
		}
	}
}

// near calls see with s, and with all texts that one byte more, one less or another one makes of it.
func near(s string, see func(string)) {
	see(s)
	for i := range len(s) + 1 {
		for c := range 256 {
			b := string([]byte{byte(c)})
			see(s[:i] + b + s[i:])
			if i < len(s) {
				see(s[:i] + b + s[i+1:])
			}
		}
		if i < len(s) {
			see(s[:i] + s[i+1:])
		}
	}
}

// textByReference compares what is told of s with the chapter's answers.
func textByReference(t *testing.T, s string) {
	t.Helper()
	if got := Right(s); got != referenceRight(s) {
		t.Fatalf("Right(%q) = %v", s, got)
	}
	port, want := referencePort(s)
	if got := Port(s); got != port {
		t.Fatalf("Port(%q) = %d, want %d", s, got, port)
	}
	if got := Special(s); got != want {
		t.Fatalf("Special(%q) = %v", s, got)
	}
	if Special(s) && !Right(s) {
		t.Fatalf("%q is special, but no scheme", s)
	}
}

func TestTextsByReference(t *testing.T) {
	see := func(s string) { textByReference(t, s) }
	for _, s := range special {
		near(s, see)
	}
	sample.Lists(5, []byte("azAZ09+-.:/ \xc3"), func(b []byte) { see(string(b)) })
	sample.Lists(5, []byte("htpswfile"), func(b []byte) { see(string(b)) })
}

// P15.2

// cuts: a text, its scheme, and what is behind that.
var cuts = []struct{ l, s, rest string }{
	// the chapter's
	{"HTTP://a", "http", "//a"},
	// letters of either case
	{"a:", "a", ""},
	{"A:", "a", ""},
	{"Z:z", "z", "z"},
	{"FiLe:a:b", "file", "a:b"},
	{capital + ":" + capital, small, capital},
	{small + ":" + small, small, small},
	{"SVN+ssh:X", "svn+ssh", "X"},
	// what is not a letter
	{"a1+-.:b", "a1+-.", "b"},
	{"X0123456789:", "x0123456789", ""},
	{"a.b:80", "a.b", "80"},
	{"c:/x", "c", "/x"},
	{"C:\\x", "c", "\\x"},
	// the first colon counts, and nothing behind it does
	{"a::", "a", ":"},
	{"a:b:c", "a", "b:c"},
	{"a:1:", "a", "1:"},
	{"http:a b", "http", "a b"},
	{"javascript:\u00e9\u0000\n", "javascript", "\u00e9\u0000\n"},
	{"data:,\U0001F600", "data", ",\U0001F600"},
	{"x: :", "x", " :"},
}

// noCuts: texts that begin with no scheme.
var noCuts = []string{
	// the chapter's
	"1a:", ":", "a", "a b:",
	// no colon
	"", "A", "http", "http//a", "a\uff1ab", "a;b", "1", " ", "/",
	// nothing before it
	"::", ":a", ":a:", "://a",
	// what is before it is none
	"0:", "9a:b", "+:", "+a:", "-a:", ".a:", ".:", "1:", "127.0.0.1:80", " a:", "a :", "a\t:", "\na:", "a\n:b", "a/b:c", "//a:b", "a?b:", "a#:", "a_:", "a%:", "%61:", "a@b:c", "[a:", "a\\:", "a\x00:", "a\x7f:",
	"\u00e9:", "a\u00e9:", "\u00c9:", "\ufeffa:", "\uff41:", "\uff21:", "a\u0661:", "\u212a:", "a\u212a:", "\u017f:", "a\u017f:", "\u0130:", "a\u0131:", "\ufffd:", "a\ufffd:",
	// a scheme behind it does not help
	"1:a:b", ":http:", " :a:", "\u00e9:a:b",
}

func TestCut(t *testing.T) {
	for _, c := range cuts {
		if s, rest, ok := Cut([]rune(c.l)); s != c.s || string(rest) != c.rest || !ok {
			t.Errorf("Cut(%q) = %q, %q, %v", c.l, s, string(rest), ok)
		}
	}
}

func TestNoCut(t *testing.T) {
	for _, l := range noCuts {
		if s, rest, ok := Cut([]rune(l)); s != "" || string(rest) != l || ok {
			t.Errorf("Cut(%q) = %q, %q, %v", l, s, string(rest), ok)
		}
	}
	if s, rest, ok := Cut(nil); s != "" || len(rest) != 0 || ok {
		t.Errorf("of nothing: %q, %q, %v", s, string(rest), ok)
	}
}

// cutByReference compares what l is cut into with the chapter's answer.
func cutByReference(t *testing.T, l []rune) {
	t.Helper()
	was := slices.Clone(l)
	wantS, wantRest, want := referenceCut(l)
	s, rest, ok := Cut(l)
	if s != wantS || !slices.Equal(rest, wantRest) || ok != want {
		t.Fatalf("Cut(%x) = %q, %x, %v, want %q, %x, %v", l, s, rest, ok, wantS, wantRest, want)
	}
	if !slices.Equal(l, was) {
		t.Fatalf("%x has become %x", was, l)
	}
}

// TestEachCodePoint puts each code point, and what is none, at each place where it may matter.
func TestEachCodePoint(t *testing.T) {
	sample.Runes(-0x400, 0x110400, far, func(r rune) {
		cutByReference(t, []rune{r, ':', 'b'})
		cutByReference(t, []rune{'A', r, ':', 'B'})
		cutByReference(t, []rune{'a', ':', r})
		cutByReference(t, []rune{r, 'a'})
	})
}

func TestCutsByReference(t *testing.T) {
	see := func(l []rune) { cutByReference(t, l) }
	sample.Lists(6, []rune("aZ0+::"), see)
	sample.Lists(5, []rune("aA1.-: /\u212a"), see)
	sample.Lists(3, slices.Concat(far, []rune("aZ:0")), see)
}

func TestNoiseByReference(t *testing.T) {
	next := sample.Noise(15)
	of := [][]rune{
		[]rune(small + capital + others + ":::"),
		[]rune(small + capital + ":"),
		[]rune("HTTPShttps:::://"),
		slices.Concat(far, []rune(small+small+small+"::::")),
	}
	cut := 0
	const times = 100000
	for i := range times {
		l := sample.Pick(next, next(12), of[i%len(of)])
		cutByReference(t, l)
		if _, _, ok := Cut(l); ok {
			cut++
		}
	}
	if cut < times/10 || cut > times*9/10 {
		t.Errorf("%d of %d are cut", cut, times)
	}
}

// TestLong: schemes may be of any length, and so may what is behind them.
func TestLong(t *testing.T) {
	const many = 1 << 20
	s := strings.Repeat("a1+-.", many)
	if !Right(s) || Right(s+"A") || Right("1"+s) || Special(s) || Port(s) != -1 {
		t.Error("a long scheme")
	}
	for _, behind := range []string{"", s, strings.Repeat(":", many)} {
		got, rest, ok := Cut([]rune(strings.ToUpper(s) + ":" + behind))
		if got != s || string(rest) != behind || !ok {
			t.Errorf("%d of %d bytes, %d of %d behind them, %v", len(got), len(s), len(rest), len(behind), ok)
		}
	}
	for _, l := range []string{s, s + "_:", "1" + s + ":", strings.Repeat(":", many)} {
		if got, rest, ok := Cut([]rune(l)); got != "" || string(rest) != l || ok {
			t.Errorf("%.8q…: %.8q, %d of %d, %v", l, got, len(rest), len(l), ok)
		}
	}
}

// P15.3

// cased returns l with letters of any case.
func cased(next func(below int) int, l string) []rune {
	out := []rune(l)
	for i, r := range out {
		if strings.ContainsRune(small, r) && next(2) == 0 {
			out[i] = r - 'a' + 'A'
		}
	}
	return out
}

// wantCut: s is a scheme, of which texts are made in any case, with anything behind them.
func wantCut(t *testing.T, next func(below int) int, s string, behind []rune) {
	t.Helper()
	l := slices.Concat(cased(next, s), []rune{':'}, behind)
	if got, rest, ok := Cut(l); got != s || !slices.Equal(rest, behind) || !ok {
		t.Fatalf("%q and %x behind it: Cut(%x) = %q, %x, %v", s, behind, l, got, rest, ok)
	}
}

func TestSchemesAreCut(t *testing.T) {
	next := sample.Noise(3)
	anything := slices.Concat(far, []rune(":::/?#@\\ aA1"))
	for _, s := range slices.Concat(schemes, special) {
		for range 300 {
			wantCut(t, next, s, sample.Pick(next, next(6), anything))
		}
	}
	for range 50000 {
		s := string(sample.Pick(next, 1, []rune(small))) + string(sample.Pick(next, next(8), []rune(small+others)))
		wantCut(t, next, s, sample.Pick(next, next(6), anything))
	}
}

// TestCutIsRight: what is cut off is a scheme, and is cut off again.
func TestCutIsRight(t *testing.T) {
	cut := 0
	sample.Lists(5, []rune("aZ9.:/"), func(l []rune) {
		s, rest, ok := Cut(l)
		if !ok {
			return
		}
		cut++
		again, behind, _ := Cut(slices.Concat([]rune(s), []rune{':'}, rest))
		if !Right(s) || again != s || !slices.Equal(behind, rest) {
			t.Fatalf("Cut(%q) = %q, %q, and again %q, %q", string(l), s, string(rest), again, string(behind))
		}
	})
	if cut == 0 {
		t.Error("nothing was cut")
	}
}

// R3

func TestArgumentsAreKept(t *testing.T) {
	for _, text := range []string{"HTTP://a", "1A:b", "ABC", "A:"} {
		l := []rune(text + "SPARE")
		part := l[:len(text)]
		_, rest, _ := Cut(part)
		_ = append(rest, 'x')
		if string(l) != text+"SPARE" {
			t.Errorf("%q has become %q", text, string(l))
		}
	}
}

func TestResultsAreNew(t *testing.T) {
	for _, text := range []string{"HTTP://a", "1A:b", "ABC", ":"} {
		l := []rune(text)
		_, a, _ := Cut(l)
		_, b, _ := Cut(l)
		was := slices.Clone(b)
		clear(a)
		if string(l) != text || !slices.Equal(b, was) {
			t.Errorf("%q: the argument is %q, another result %q", text, string(l), string(b))
		}
	}
}
