package puny

import (
	"math"
	"math/big"
	"slices"
	"strings"
	"testing"

	"fascia/api"
	"fascia/sample"
)

// samples: those of the chapter, of RFC 3492 (7.1), and edges; the texts are not this program's.
var samples = []struct {
	s string
	l []rune
}{
	{"bcher-kva", []rune("b\u00fccher")},
	{"4ca", []rune("\u00e4")},
	{"a-", []rune("a")},
	{"", nil},
	{"egbpdaj6bu4bxfgehfvwxn", []rune("\u0644\u064a\u0647\u0645\u0627\u0628\u062a\u0643\u0644\u0645\u0648\u0634\u0639\u0631\u0628\u064a\u061f")},
	{"ihqwcrb4cv8a8dqg056pqjye", []rune("\u4ed6\u4eec\u4e3a\u4ec0\u4e48\u4e0d\u8bf4\u4e2d\u6587")},
	{"ihqwctvzc91f659drss3x8bo0yb", []rune("\u4ed6\u5011\u7232\u4ec0\u9ebd\u4e0d\u8aaa\u4e2d\u6587")},
	{"Proprostnemluvesky-uyb24dma41a", []rune("Pro\u010dprost\u011bnemluv\u00ed\u010desky")},
	{"4dbcagdahymbxekheh6e0a7fei0b", []rune("\u05dc\u05de\u05d4\u05d4\u05dd\u05e4\u05e9\u05d5\u05d8\u05dc\u05d0\u05de\u05d3\u05d1\u05e8\u05d9\u05dd\u05e2\u05d1\u05e8\u05d9\u05ea")},
	{"i1baa7eci9glrd9b2ae1bj0hfcgg6iyaf8o0a1dig0cd", []rune("\u092f\u0939\u0932\u094b\u0917\u0939\u093f\u0928\u094d\u0926\u0940\u0915\u094d\u092f\u094b\u0902\u0928\u0939\u0940\u0902\u092c\u094b\u0932\u0938\u0915\u0924\u0947\u0939\u0948\u0902")},
	{"n8jok5ay5dzabd5bym9f0cm5685rrjetr6pdxa", []rune("\u306a\u305c\u307f\u3093\u306a\u65e5\u672c\u8a9e\u3092\u8a71\u3057\u3066\u304f\u308c\u306a\u3044\u306e\u304b")},
	{"989aomsvi5e83db1d2a355cv1e0vak1dwrv93d5xbh15a0dt30a5jpsd879ccm6fea98c", []rune("\uc138\uacc4\uc758\ubaa8\ub4e0\uc0ac\ub78c\ub4e4\uc774\ud55c\uad6d\uc5b4\ub97c\uc774\ud574\ud55c\ub2e4\uba74\uc5bc\ub9c8\ub098\uc88b\uc744\uae4c")},
	{"b1abfaaepdrnnbgefbadotcwatmq2g4l", []rune("\u043f\u043e\u0447\u0435\u043c\u0443\u0436\u0435\u043e\u043d\u0438\u043d\u0435\u0433\u043e\u0432\u043e\u0440\u044f\u0442\u043f\u043e\u0440\u0443\u0441\u0441\u043a\u0438")},
	{"PorqunopuedensimplementehablarenEspaol-fmd56a", []rune("Porqu\u00e9nopuedensimplementehablarenEspa\u00f1ol")},
	{"TisaohkhngthchnitingVit-kjcr8268qyxafd2f1b9g", []rune("T\u1ea1isaoh\u1ecdkh\u00f4ngth\u1ec3ch\u1ec9n\u00f3iti\u1ebfngVi\u1ec7t")},
	{"3B-ww4c5e180e575a65lsy2b", []rune("3\u5e74B\u7d44\u91d1\u516b\u5148\u751f")},
	{"-with-SUPER-MONKEYS-pc58ag80a8qai00g7n9n", []rune("\u5b89\u5ba4\u5948\u7f8e\u6075-with-SUPER-MONKEYS")},
	{"Hello-Another-Way--fc4qua05auwb3674vfr0b", []rune("Hello-Another-Way-\u305d\u308c\u305e\u308c\u306e\u5834\u6240")},
	{"2-u9tlzr9756bt3uc0v", []rune("\u3072\u3068\u3064\u5c4b\u6839\u306e\u4e0b2")},
	{"MajiKoi5-783gue6qz075azm5e", []rune("Maji\u3067Koi\u3059\u308b5\u79d2\u524d")},
	{"de-jg4avhby1noc0d", []rune("\u30d1\u30d5\u30a3\u30fcde\u30eb\u30f3\u30d0")},
	{"d9juau41awczczp", []rune("\u305d\u306e\u30b9\u30d4\u30fc\u30c9\u3067")},
	{"-> $1.00 <--", []rune("-> $1.00 <-")},
	{"dn32g", []rune("\U0010ffff")},
	{"hb9bk0m", []rune("\ud7ff\ue000")},
	{"ab-ca440765b", []rune("a\U0010ffffb\u0080")},
	{"\x00\x7f-ca", []rune("\x00\x7f\u0080")},
	{"tdaa", []rune("\u00fc\u00fc")},
	{"a7wbe", []rune("\u00ff\u0080\u00ff\u0100")},
	{"--", []rune("-")},
	{"---", []rune("--")},
}

// notScalars: the edges of what is no scalar, and numbers far away.
var notScalars = []rune{0xD800, 0xD801, 0xDBFF, 0xDC00, 0xDFFE, 0xDFFF, -1, -2, -'a', -128, -0x10FFFF, math.MinInt32, 0x110000, 0x110001, 0x200000, math.MaxInt32}

// edges: basic scalars and others, at both ends of what there is.
var edges = []rune{0, '-', '9', 'Z', 'a', 127, 128, 129, 0xFC, 0xD7FF, 0xE000, 0x10FFFF}

// noisy returns a list of n scalars of all kinds.
func noisy(next func(int) int, n int) []rune {
	var l []rune
	for len(l) < n {
		r := rune(next([]int{128, 0x300, 0x10000, 0x110000}[next(4)]))
		if r < 0xD800 || r > 0xDFFF {
			l = append(l, r)
		}
	}
	return l
}

func encode(t *testing.T, l []rune) string {
	t.Helper()
	s, e := Encode(l)
	if e != api.OK {
		t.Fatalf("Encode(%x): error %d", l, e)
	}
	return s
}

func decode(t *testing.T, s string) []rune {
	t.Helper()
	l, e := Decode(s)
	if e != api.OK {
		t.Fatalf("Decode(%q): error %d", s, e)
	}
	return l
}

// noText: s is to be the text of nothing.
func noText(t *testing.T, s string) {
	t.Helper()
	if l, e := Decode(s); e != api.ErrPuny || len(l) != 0 {
		t.Errorf("Decode(%q) = %x, %d, want ErrPuny", s, l, e)
	}
}

// P4.1

func TestEncode(t *testing.T) {
	for _, x := range samples {
		if s := encode(t, x.l); s != x.s {
			t.Errorf("Encode(%x) = %q, want %q", x.l, s, x.s)
		}
	}
}

func TestEncodeByReference(t *testing.T) {
	sample.Lists(4, edges, func(l []rune) {
		if s, want := encode(t, l), textOf(l); s != want {
			t.Fatalf("Encode(%x) = %q, want %q", l, s, want)
		}
	})
	next := sample.Noise(1)
	for i := range 200 {
		l := noisy(next, i)
		if s, want := encode(t, l), textOf(l); s != want {
			t.Fatalf("Encode(%x) = %q, want %q", l, s, want)
		}
	}
}

func TestEncodeEachScalar(t *testing.T) {
	for r := rune(0); r <= api.MaxRune; r++ {
		if r < 0xD800 || r > 0xDFFF {
			if l := decode(t, encode(t, []rune{r})); len(l) != 1 || l[0] != r {
				t.Fatalf("%x is %x, encoded and decoded", r, l)
			}
		}
	}
}

func TestEncodeNotScalars(t *testing.T) {
	for _, r := range notScalars {
		for _, l := range [][]rune{{r}, {'a', r}, {r, 'a'}, {0xFC, r, 0xFC}} {
			if s, e := Encode(l); s != "" || e != api.ErrPuny {
				t.Errorf("Encode(%x) = %q, %d, want ErrPuny", l, s, e)
			}
		}
	}
	for r := rune(0xD800); r <= 0xDFFF; r++ {
		if s, e := Encode([]rune{r}); s != "" || e != api.ErrPuny {
			t.Fatalf("Encode(%x) = %q, %d, want ErrPuny", r, s, e)
		}
	}
}

func TestEncodeGreat(t *testing.T) {
	for _, r := range []rune{'a', 0xFC, 0x10FFFF} {
		l := slices.Repeat([]rune{r}, 2000)
		if s := encode(t, l); s != textOf(l) {
			t.Errorf("2000 times %x: %q", r, s)
		}
		if s, e := Encode(append(l, r)); s != "" || e != api.ErrGreat {
			t.Errorf("2001 times %x: %q, %d, want ErrGreat", r, s, e)
		}
	}
	// the greater fault is named first
	if s, e := Encode(slices.Repeat([]rune{0xD800}, 2001)); s != "" || e != api.ErrGreat {
		t.Errorf("2001 that are no scalars: %q, %d, want ErrGreat", s, e)
	}
	if s, e := Encode(slices.Repeat([]rune{0xD800}, 2000)); s != "" || e != api.ErrPuny {
		t.Errorf("2000 that are no scalars: %q, %d, want ErrPuny", s, e)
	}
}

// TestEncodeGreatDelta: the delta of the last scalar at the last place of a
// list of the greatest length is not to be held in 32 bits.
func TestEncodeGreatDelta(t *testing.T) {
	l := append(slices.Repeat([]rune{'a'}, 1999), 0x10FFFF)
	want := newWriter(strings.Repeat("a", 1999))
	want.delta(big.NewInt((0x10FFFF-128)*2000 + 1999))
	if s := encode(t, l); s != want.out.String() {
		t.Errorf("%q, want %q", s[1999:], want.out.String()[1999:])
	}
	if got := decode(t, want.out.String()); !slices.Equal(got, l) {
		t.Errorf("decoded, it is %x", got)
	}
}

func TestEncodeLeavesArgument(t *testing.T) {
	l := []rune{0xFC, 'b', 0xE4, 'a', 'x', 'y', 'z'}
	was := slices.Clone(l)
	first := encode(t, l[:4])
	if !slices.Equal(l, was) {
		t.Errorf("the argument is %x now", l)
	}
	if encode(t, l[:4]) != first {
		t.Error("the second time it is another text")
	}
}

// P4.2

func TestDecode(t *testing.T) {
	for _, x := range samples {
		if l := decode(t, x.s); !slices.Equal(l, x.l) {
			t.Errorf("Decode(%q) = %x, want %x", x.s, l, x.l)
		}
	}
}

func TestDecodeNoText(t *testing.T) {
	for _, s := range []string{
		"-", "bcher-Kva", "99999999", // the chapter's
		// a hyphen, but nothing basic before it
		"-4ca", "-a", "-abc",
		// what is no digit
		"4Ca", "4cA", "K", "A", "a-A", "4c_", "a b", "a.b", "\x00", "a-/", "a-:", "a-`", "a-{", "a-@", "a-[", "4ca ", " 4ca",
		// no ASCII
		"\u00e4", "\u00e4-4ca", "a\u00e4-4ca", "a-4ca\u00e4", "\x80-", "a\x80-", "\xff", "a-\xff",
		// cut off
		"4", "4c", "bcher-k", "bcher-kv", "bcher-kva9", "z", "a-z", "9", "fiq228",
		// beyond the last scalar
		"a-9999999a", "dn32h",
	} {
		noText(t, s)
	}
}

func TestDecodeNotDigits(t *testing.T) {
	for c := range 256 {
		if strings.IndexByte(byValue+"-", byte(c)) < 0 {
			noText(t, "4"+string([]byte{byte(c)})+"a")
			noText(t, "bcher-kv"+string([]byte{byte(c)}))
		}
		// before the hyphen all of ASCII may be
		s := string([]byte{'x', byte(c), '-'})
		if c > 127 {
			noText(t, s)
		} else if l := decode(t, s); !slices.Equal(l, []rune{'x', rune(c)}) {
			t.Errorf("Decode(%q) = %x", s, l)
		}
	}
}

func TestDecodeByReference(t *testing.T) {
	bytes := []byte("-abctyz019A\x7F\x80")
	check := func(s string) {
		want, ok := listOf(s)
		if !ok {
			noText(t, s)
		} else if l := decode(t, s); !slices.Equal(l, want) {
			t.Errorf("Decode(%q) = %x, want %x", s, l, want)
		}
	}
	sample.Lists(4, bytes, func(b []byte) { check(string(b)) })
	sample.Lists(7, []byte("-a9z"), func(b []byte) { check(string(b)) })
	for n := range 300 {
		for _, c := range []string{"a", "b", "y", "z", "0", "9"} {
			check(strings.Repeat(c, n))
			check("x-" + strings.Repeat(c, n) + "a")
		}
	}
	next := sample.Noise(2)
	for i := range 20000 {
		b := make([]byte, i%40)
		for j := range b {
			b[j] = bytes[next(9)]
		}
		check(string(b))
	}
}

// TestDecodeNotScalars: texts that would be those of what is no scalar.
func TestDecodeNotScalars(t *testing.T) {
	for _, r := range []rune{0xD800, 0xD801, 0xDBFF, 0xDC00, 0xDFFF, 0x110000, 0x110001, 0x200000, math.MaxInt32} {
		for _, l := range [][]rune{{r}, {'a', r}, {r, 'a'}, {0xFC, r}, {r, r, 0xFC}, {'a', 0xFC, r, 'b'}} {
			noText(t, textOf(l))
		}
	}
	for r := rune(0xD7F0); r <= 0xE010; r++ {
		if r < 0xD800 || r > 0xDFFF {
			if l := decode(t, textOf([]rune{'a', r})); !slices.Equal(l, []rune{'a', r}) {
				t.Errorf("%x is decoded as %x", r, l)
			}
		} else {
			noText(t, textOf([]rune{'a', r}))
		}
	}
}

// TestDecodeWrapsNowhere: what is a good delta but for a power of two is none.
func TestDecodeWrapsNowhere(t *testing.T) {
	for _, basic := range []string{"", "a", "abcdef"} {
		for _, bits := range []uint{31, 32, 33, 63, 64, 65, 128} {
			for d := range int64(300) {
				power := new(big.Int).Lsh(big.NewInt(1), bits)
				w := newWriter(basic)
				w.delta(power.Add(power, big.NewInt(d)))
				noText(t, w.out.String())
				w.delta(big.NewInt(d))
				noText(t, w.out.String())
			}
		}
	}
	for n := 6; n < 2000; n++ {
		noText(t, strings.Repeat("9", n))
		noText(t, strings.Repeat("9", n)+"a")
	}
}

func TestDecodeGreat(t *testing.T) {
	// 9999 basic ones, each of which a byte says
	s := strings.Repeat("a", 9999) + "-"
	if l := decode(t, s); !slices.Equal(l, slices.Repeat([]rune{'a'}, 9999)) {
		t.Errorf("10000 bytes are decoded as %d scalars", len(l))
	}
	// 10000 others: a delta of 0 inserts the same one behind the last one
	if l := decode(t, strings.Repeat("a", 10000)); !slices.Equal(l, slices.Repeat([]rune{128}, 10000)) {
		t.Errorf("10000 digits are decoded as %d scalars", len(l))
	}
	for _, c := range []string{"a", "-", "9", "A", "\xff"} {
		if l, e := Decode(strings.Repeat(c, 10001)); len(l) != 0 || e != api.ErrGreat {
			t.Errorf("10001 times %q: %d scalars, error %d, want ErrGreat", c, len(l), e)
		}
	}
	for _, c := range []string{"9", "A", "\xff"} {
		noText(t, strings.Repeat(c, 10000))
	}
}

func TestDecodeIsNew(t *testing.T) {
	const s = "bcher-kva"
	a, b := decode(t, s), decode(t, s)
	a[0] = 'x'
	if string(b) != "b\u00fccher" || string(decode(t, s)) != "b\u00fccher" {
		t.Error("two results share memory")
	}
}

// P4.3

func TestOneTextEach(t *testing.T) {
	lists := map[string]string{}
	sample.Lists(4, edges, func(l []rune) {
		s := encode(t, l)
		if was, ok := lists[s]; ok {
			t.Fatalf("%q is the text of %q and of %q", s, was, string(l))
		}
		lists[s] = string(l)
		if got := decode(t, s); !slices.Equal(got, l) {
			t.Fatalf("%x, encoded and decoded, is %x", l, got)
		}
	})
}

// TestNoOtherText: whatever is decoded is the text of what it is decoded as.
func TestNoOtherText(t *testing.T) {
	texts := 0
	check := func(b []byte) {
		l, e := Decode(string(b))
		if e != api.OK {
			return
		}
		texts++
		if s := encode(t, l); s != string(b) {
			t.Fatalf("%q is decoded as %x, the text of which is %q", b, l, s)
		}
	}
	sample.Lists(3, []byte(byValue+"-AZ \x00\x7F"), check)
	sample.Lists(5, []byte("-akz09"), check)
	if texts < 1000 {
		t.Errorf("only %d texts", texts)
	}
}

func TestLongListsAgain(t *testing.T) {
	next := sample.Noise(3)
	for n := 1; n <= 2000; n += 97 {
		l := noisy(next, n)
		s := encode(t, l)
		if len(s) > 10000 {
			continue
		}
		if got := decode(t, s); !slices.Equal(got, l) {
			t.Fatalf("%x, encoded and decoded, is %x", l, got)
		}
	}
}

func TestBasicEndsWithHyphen(t *testing.T) {
	sample.Lists(3, []rune{0, ' ', '-', '0', 'A', 'a', 'z', 127}, func(l []rune) {
		if len(l) > 0 && encode(t, l) != string(l)+"-" {
			t.Errorf("Encode(%q) = %q", string(l), encode(t, l))
		}
	})
	if encode(t, nil) != "" || encode(t, []rune{}) != "" {
		t.Error("the text of nothing is not empty")
	}
}
