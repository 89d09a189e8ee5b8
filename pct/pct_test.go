package pct

import (
	"bytes"
	"math"
	"slices"
	"strings"
	"testing"

	"fascia/api"
	"fascia/utf"
)

// members: what each set has beside all above 126 and below 32, as numbers.
var members = map[uint8][]rune{
	api.SetControl: {},
	api.SetHash:    {32, 34, 60, 62, 96},
	api.SetQuery:   {32, 34, 35, 60, 62},
	api.SetSpecial: {32, 34, 35, 39, 60, 62},
	api.SetPath:    {32, 34, 35, 60, 62, 63, 94, 96, 123, 125},
	api.SetUser:    {32, 34, 35, 47, 58, 59, 60, 61, 62, 63, 64, 91, 92, 93, 94, 96, 123, 124, 125},
}

// far: numbers that are no scalar, and those beside them.
var far = []rune{-1, -2, -37, -256, -0xFFFD, math.MinInt32, math.MinInt32 + 37, 0xD7FF, 0xD800, 0xDBFF, 0xDC00, 0xDFFF, 0xE000, 0xFFFD, 0x10FFFF, 0x110000, 0x110041, math.MaxInt32}

// samples: code points of all kinds, some of which are codes when encoded.
var samples = [][]rune{
	nil,
	[]rune("a b"),
	[]rune("%41?"),
	[]rune("%"),
	[]rune("%%4"),
	[]rune("%4 1"),
	[]rune("% 41"),
	[]rune("%4\u00e9%e9"),
	[]rune("%%41%2541%zz"),
	[]rune("\x00\x1f\x7f\u0080\u20ac\U0001f600"),
	{'%', 0xD800, '4', '1', -1, 0x110000},
	ascii(),
	far,
}

func ascii() []rune {
	var out []rune
	for r := rune(0); r < 128; r++ {
		out = append(out, r)
	}
	return out
}

func encode(t *testing.T, set uint8, l []rune) string {
	t.Helper()
	s, e := Encode(set, l)
	if e != api.OK {
		t.Fatalf("Encode(%d, %x): error %d", set, l, e)
	}
	return s
}

// P3.1

func TestDigit(t *testing.T) {
	const lower, upper = "0123456789abcdef", "0123456789ABCDEF"
	for c := 0; c <= 255; c++ {
		want := max(strings.IndexByte(lower, byte(c)), strings.IndexByte(upper, byte(c)))
		n, ok := Digit(byte(c))
		if ok != (want >= 0) || n != max(want, 0) {
			t.Errorf("Digit(%d) = %d, %v", c, n, ok)
		}
	}
}

func TestIn(t *testing.T) {
	for set, further := range members {
		for r := rune(-300); r <= 70000; r++ {
			want := r < 32 || r > 126 || slices.Contains(further, r)
			if In(set, r) != want {
				t.Fatalf("In(%d, %d) = %v", set, r, !want)
			}
		}
		for _, r := range far {
			if !In(set, r) {
				t.Errorf("In(%d, %d) = false", set, r)
			}
		}
	}
}

func TestInEnds(t *testing.T) {
	for set := range members {
		for r, want := range map[rune]bool{0: true, 31: true, 33: false, 126: false, 127: true, 128: true, '%': false} {
			if In(set, r) != want {
				t.Errorf("In(%d, %d) = %v", set, r, !want)
			}
		}
	}
	if In(api.SetControl, ' ') || !In(api.SetHash, ' ') {
		t.Error("the space is in all sets but SetControl")
	}
}

func TestInDocument(t *testing.T) {
	if !In(api.SetUser, '@') || In(api.SetPath, '@') {
		t.Error("SetUser has @, SetPath does not")
	}
}

func TestInNoSet(t *testing.T) {
	for set := 0; set <= 255; set++ {
		if api.SetControl <= uint8(set) && uint8(set) <= api.SetUser {
			continue
		}
		for _, r := range slices.Concat(ascii(), far) {
			if In(uint8(set), r) {
				t.Fatalf("In(%d, %d) = true", set, r)
			}
		}
	}
}

// P3.2

func TestEncodeDocument(t *testing.T) {
	for in, want := range map[string]string{"a b": "a%20b", "\u00e9": "%C3%A9", "%41?": "%41%3F", "": ""} {
		if s := encode(t, api.SetPath, []rune(in)); s != want {
			t.Errorf("Encode(SetPath, %q) = %q, want %q", in, s, want)
		}
	}
}

func TestEncodeEach(t *testing.T) {
	const upper = "0123456789ABCDEF"
	for set, further := range members {
		for _, r := range slices.Concat(ascii(), []rune{0x80, 0xFF, 0x7FF, 0x800, 0xABCD, 0xFFFF, 0x10000, 0xFEDCB}, far) {
			want := string(r)
			if r < 32 || r > 126 || slices.Contains(further, r) {
				want = ""
				for _, c := range utf.Encode([]rune{r}) {
					want += "%" + string(upper[c/16]) + string(upper[c%16])
				}
			}
			if s := encode(t, set, []rune{'a', r, 'b'}); s != "a"+want+"b" {
				t.Errorf("Encode(%d, a %x b) = %q, want a%sb", set, r, s, want)
			}
		}
	}
}

func TestEncodeNotScalars(t *testing.T) {
	for set := range members {
		if s := encode(t, set, []rune{0xD800, 'x', -1, 0x110000, math.MinInt32 + 'x'}); s != "%EF%BF%BDx%EF%BF%BD%EF%BF%BD%EF%BF%BD" {
			t.Errorf("set %d: %q", set, s)
		}
	}
}

func TestEncodeNoSet(t *testing.T) {
	for _, set := range []uint8{0, 7, 8, 100, 128, 255} {
		for _, l := range samples {
			if s, e := Encode(set, l); s != "" || e != api.ErrArg {
				t.Errorf("Encode(%d, %x) = %q, %d", set, l, s, e)
			}
		}
	}
}

func TestEncodeLeavesArgument(t *testing.T) {
	l := []rune{'a', ' ', 0xE9, 'x', 'y', 'z'}
	was := slices.Clone(l)
	encode(t, api.SetUser, l[:3])
	if !slices.Equal(l, was) {
		t.Errorf("the argument is %x now", l)
	}
}

// P3.3

func TestDecode(t *testing.T) {
	for in, want := range map[string]string{
		"":             "",
		"abc":          "abc",
		"%41%4g%":      "A%4g%", // the document's
		"%41":          "A",
		"x%41y":        "xAy",
		"%00%fF%Ff":    "\x00\xff\xff",
		"%7e%7E":       "~~",
		"%e2%82%AC":    "\u20ac",
		"%c3":          "\xc3", // what is no UTF-8 stays bytes
		"\xff%ff\x00+": "\xff\xff\x00+",
		// cut off
		"%":    "%",
		"%4":   "%4",
		"a%":   "a%",
		"a%4":  "a%4",
		"%41%": "A%",
		// no code
		"%zz":    "%zz",
		"%4z":    "%4z",
		"%z4":    "%z4",
		"% 4":    "% 4",
		"%-1":    "%-1",
		"%/0%:0": "%/0%:0",
		"%@0%G0": "%@0%G0",
		"%`0%g0": "%`0%g0",
		"%0/%0:": "%0/%0:",
		"%0@%0G": "%0@%0G",
		"%0`%0g": "%0`%0g",
		"%%":     "%%",
		"%%%":    "%%%",
		"%%41":   "%A",
		"%4%41":  "%4A",
		"%%4%41": "%%4A",
		// a byte that is decoded begins nothing
		"%2541":   "%41",
		"%25%34":  "%4",
		"%254%31": "%41",
		"%%34%31": "%41",
	} {
		if got := Decode(in); string(got) != want {
			t.Errorf("Decode(%q) = %q, want %q", in, got, want)
		}
	}
}

func TestDecodeAllCodes(t *testing.T) {
	const lower, upper = "0123456789abcdef", "0123456789ABCDEF"
	for c := 0; c <= 255; c++ {
		for _, high := range []byte{lower[c/16], upper[c/16]} {
			for _, low := range []byte{lower[c%16], upper[c%16]} {
				s := string([]byte{'%', high, low})
				if got := Decode(s); !bytes.Equal(got, []byte{byte(c)}) {
					t.Errorf("Decode(%q) = %x", s, got)
				}
			}
		}
	}
}

func TestDecodeIsNew(t *testing.T) {
	a, b := Decode("a%20b"), Decode("a%20b")
	a[0] = 'x'
	if string(b) != "a b" || string(Decode("a%20b")) != "a b" {
		t.Error("two results share memory")
	}
}

// P3.4

func TestEncodedHasNoneOfTheSet(t *testing.T) {
	for set := range members {
		for _, l := range samples {
			once := encode(t, set, l)
			for _, r := range once {
				if In(set, r) {
					t.Errorf("Encode(%d, %x) = %q has %q", set, l, once, r)
				}
			}
			if twice := encode(t, set, []rune(once)); twice != once {
				t.Errorf("set %d: %q, encoded again, is %q", set, once, twice)
			}
		}
	}
}

func TestDecodeOfEncode(t *testing.T) {
	for set := range members {
		for _, l := range samples {
			got, want := Decode(encode(t, set, l)), Decode(string(utf.Encode(l)))
			if !bytes.Equal(got, want) {
				t.Errorf("set %d: %x is decoded as %q, want %q", set, l, got, want)
			}
		}
	}
}

// TestSmallerThenGreater: also which set is in which, so that no pair is left out.
func TestSmallerThenGreater(t *testing.T) {
	in := [][2]uint8{
		{api.SetControl, api.SetHash}, {api.SetControl, api.SetQuery}, {api.SetControl, api.SetSpecial}, {api.SetControl, api.SetPath}, {api.SetControl, api.SetUser},
		{api.SetHash, api.SetPath}, {api.SetHash, api.SetUser},
		{api.SetQuery, api.SetSpecial}, {api.SetQuery, api.SetPath}, {api.SetQuery, api.SetUser},
		{api.SetPath, api.SetUser},
	}
	for small := api.SetControl; small <= api.SetUser; small++ {
		for great := api.SetControl; great <= api.SetUser; great++ {
			within := !slices.ContainsFunc(ascii(), func(r rune) bool { return In(small, r) && !In(great, r) })
			if want := small == great || slices.Contains(in, [2]uint8{small, great}); within != want {
				t.Errorf("set %d in set %d: %v", small, great, within)
			}
			if within {
				smallerThenGreater(t, small, great)
			}
		}
	}
}

func smallerThenGreater(t *testing.T, small, great uint8) {
	for _, l := range samples {
		both := encode(t, great, []rune(encode(t, small, l)))
		if alone := encode(t, great, l); both != alone {
			t.Errorf("%x with set %d, then %d, is %q, with %d alone %q", l, small, great, both, great, alone)
		}
	}
}
