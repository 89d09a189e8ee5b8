package path

import (
	"math"
	"slices"
	"strings"
	"testing"

	"fascia/sample"
)

// far: numbers that are no scalar, those at the ends of what there is, those that are a separator, a point, a letter or a colon in their lower bits, and what looks like one.
var far = []rune{
	-1, -'/', -'.', -'C', -':', math.MinInt32, math.MinInt32 + '/', math.MinInt32 + '.', math.MinInt32 + 'C', math.MinInt32 + ':', math.MaxInt32, 0x7FFF002F, 0x7FFF003A,
	0xD800, 0xDFFF, 0xE000, 0xFFFD, 0xFFFF, 0x10FFFF, 0x110000, 0x11002F, 0x11002E, 0x110043, 0x11003A, 0x1002F, 0x1005C, 0x1002E, 0x10043, 0x1007C,
	0x12F, 0x15C, 0x12E, 0x143, 0x13A, 0x17C, 0x7F, 0x80, 0xE9, 0x2024, 0x2025, 0x2044, 0x2215, 0x29F5, 0x212A, 0x17F, 0xFF0E, 0xFF0F, 0xFF3C, 0xFF21, 0xFF1A, 0xFF5C, 0x2223, 0x2236, 0x430,
}

// schemes: the special ones, others, and what is none, which counts as another one.
var schemes = []string{"file", "http", "https", "ftp", "ws", "wss", "x", "mailto", "files", "fil", "", "FILE", "File", "HTTP", "file:", "f\xff"}

// P16.1

var singles = []string{".", "%2e", "%2E"}

var doubles = []string{"..", ".%2e", ".%2E", "%2e.", "%2E.", "%2e%2e", "%2e%2E", "%2E%2e", "%2E%2E"}

// noDots: segments of neither kind.
var noDots = []string{
	"", "...", "....", "%2e..", ".%2e.", "..%2e", "%2e%2e%2e", "%2e%2e.", "%2E%2e%2E",
	"a", ".a", "a.", "..a", "a..", ".a.", " .", ". ", ".. ", " ..", ". .", "./", "/.", "../", "..\\", "./.", ".?", "..#", ".\x00", "..\x00", "\n.", ".\n", "..\n",
	"%", "%2", "%2.", "%.2e", "2e", "%2f", "%2d", "%2e%", "%2e%2", "%2e2e", "%%2e", "%2ee", "%22e", "%25", "%252e", "%25%32%65", "%20", ".%", ".%2", ".%2f", "%2f.", "%2f%2e", "%2e%2f", "%5e", "%2ea", "%e2", "%u002e", "%02e",
	"\uff0e", ".\uff0e", "\uff0e.", "\u2024", "\u2025", "\u2026", ".\u2024", "%2\uff45", "\uff052e", "%2\u0435", "%2\u00e9", "%2\u212f", "%2\u2130", ".%2\u212f",
	"\xff", ".\xff", "\xff.", "..\xff", "%2\xff", "%2e\xff", "\xff%2e", "%2E\xff", "\xae", "\xae\xae",
}

func wantDots(t *testing.T, s string, single, double bool) {
	t.Helper()
	if a, b := Single(s), Double(s); a != single || b != double {
		t.Errorf("%q: single %v, double %v, want %v, %v", s, a, b, single, double)
	}
}

func TestDots(t *testing.T) {
	for _, s := range singles {
		wantDots(t, s, true, false)
	}
	for _, s := range doubles {
		wantDots(t, s, false, true)
	}
	for _, s := range noDots {
		wantDots(t, s, false, false)
	}
}

func TestDotsByReference(t *testing.T) {
	of := []string{".", "%", "2", "e", "E", "%2e", "a", "f", "/", "\xff", "\u00e9"}
	found := 0
	sample.Lists(6, of, func(l []string) {
		s := strings.Join(l, "")
		single, double := referenceSingle(s), referenceDouble(s)
		wantDots(t, s, single, double)
		if single || double {
			found++
		}
	})
	if found < len(singles)+len(doubles) {
		t.Errorf("only %d dot segments", found)
	}
}

// TestNearDots puts each byte into dot segments, and in place of each of their bytes.
func TestNearDots(t *testing.T) {
	for _, s := range slices.Concat(singles, doubles) {
		for i := range len(s) + 1 {
			for c := range 256 {
				b := string([]byte{byte(c)})
				more := s[:i] + b + s[i:]
				wantDots(t, more, referenceSingle(more), referenceDouble(more))
				if i < len(s) {
					other := s[:i] + b + s[i+1:]
					wantDots(t, other, referenceSingle(other), referenceDouble(other))
				}
			}
		}
	}
}

// TestCodePointsInDots: no other code point counts as the letter, the digit or the point.
func TestCodePointsInDots(t *testing.T) {
	sample.Runes(0, 0x10FFFF, nil, func(r rune) {
		for _, s := range []string{string(r), "%2" + string(r), "." + string(r), "%2" + string(r) + "."} {
			wantDots(t, s, referenceSingle(s), referenceDouble(s))
		}
	})
}

func TestDrive(t *testing.T) {
	for _, r := range letters {
		if !Drive([]rune{r, 58}) || !Drive([]rune{r, 124}) {
			t.Errorf("%q is the letter of no drive", r)
		}
	}
	for _, s := range []string{
		"", "C", ":", "|", "C:/", "C|\\", "C::", "CC:", "C:C", "C: ", " C:", "/C:", "C:?", "1:", "0|", ":C", "|C", "::", "||", "C;", "C/", "C\\", "C ", "CC", "@:", "[:", "`:", "{:", "_|", " :", "C9", "C{", "C}", "C%7C", "%43:",
		"\u00e9:", "\u00c9|", "\uff23:", "C\uff1a", "C\uff5c", "C\u2223", "C\u2236", "\u212a:", "\u017f:", "\u0421:", "C\u00a6", "C\u01c0", "C:\u0301", "C\x00", "C:\x00", "\ufeffC:",
	} {
		if Drive([]rune(s)) {
			t.Errorf("%q is a drive", s)
		}
	}
	if Drive(nil) {
		t.Error("nothing is a drive")
	}
}

func TestBegins(t *testing.T) {
	for _, s := range []string{"C:", "C|", "z:", "a|", "A:/", "Z|/", "C:\\", "C|\\", "C:?", "C|?", "C:#", "C|#", "C:/a", "C|\\a", "C:?a", "C|#a", "C://", "C:/..", "C:\\\\", "C:#:", "C:?\u00e9", "C:/\x00"} {
		if !Begins([]rune(s)) {
			t.Errorf("%q begins with no drive", s)
		}
	}
	for _, s := range []string{
		"", "C", ":", "/", "C:a", "C|a", "C::", "C:|", "C||", "CC:", "CC:/", "1:", "1:/", "C/", "C\\:", "/C:", "/C:/", " C:/", "C:.", "C: ", "C:\n/", "C:%2F", "C:\x00", "C:@", "C:;", "C:&", "C:=", "C:!", "C:0", "C;/", "\u00e9:/",
		"C:\u2044", "C:\u2215", "C:\uff0f", "C:\uff3c", "C:\uff1f", "C:\uff03", "C:\u00e9", "C\uff1a/", "\uff23:/",
	} {
		if Begins([]rune(s)) {
			t.Errorf("%q begins with a drive", s)
		}
	}
	if Begins(nil) {
		t.Error("nothing begins with a drive")
	}
}

// driveByReference compares what is told of l with the chapter's answers.
func driveByReference(t *testing.T, l []rune) {
	t.Helper()
	was := slices.Clone(l)
	if got := Drive(l); got != referenceDrive(l) {
		t.Fatalf("Drive(%x) = %v", l, got)
	}
	if got := Begins(l); got != referenceBegins(l) {
		t.Fatalf("Begins(%x) = %v", l, got)
	}
	if !slices.Equal(l, was) {
		t.Fatalf("%x has become %x", was, l)
	}
}

func TestDrivesByReference(t *testing.T) {
	see := func(l []rune) { driveByReference(t, l) }
	sample.Lists(4, []rune("aZC1:|/\\?#. "), see)
	sample.Lists(3, slices.Concat(far, []rune("C:|/")), see)
}

// TestDrivesByEachCodePoint puts each code point, and what is none, at each place where it may matter.
func TestDrivesByEachCodePoint(t *testing.T) {
	sample.Runes(-0x400, 0x110400, far, func(r rune) {
		driveByReference(t, []rune{r})
		driveByReference(t, []rune{r, ':'})
		driveByReference(t, []rune{'C', r})
		driveByReference(t, []rune{'z', '|', r})
		driveByReference(t, []rune{r, '|', '/'})
		driveByReference(t, []rune{'C', r, '/'})
		driveByReference(t, []rune{'C', ':', '/', r})
	})
}

// P16.2

func TestShorten(t *testing.T) {
	for _, c := range []struct {
		scheme    string
		l, result []string
	}{
		// the chapter's
		{"file", []string{"C:"}, []string{"C:"}},
		// nothing to remove
		{"http", nil, nil}, {"file", nil, nil}, {"x", []string{}, nil},
		// the last one
		{"http", []string{"a"}, nil}, {"http", []string{"a", "b"}, []string{"a"}}, {"x", []string{"a", "b", "c"}, []string{"a", "b"}}, {"http", []string{""}, nil}, {"http", []string{"", ""}, []string{""}}, {"file", []string{"a", ""}, []string{"a"}}, {"file", []string{"a"}, nil}, {"file", []string{""}, nil},
		// dot segments and equal ones are segments as others
		{"http", []string{"a", ".."}, []string{"a"}}, {"http", []string{"a", "a", "a"}, []string{"a", "a"}},
		// a normalized drive stays if it is the only segment
		{"file", []string{"z:"}, []string{"z:"}}, {"file", []string{"A:"}, []string{"A:"}}, {"file", []string{"C:", "a"}, []string{"C:"}}, {"file", []string{"C:", ""}, []string{"C:"}}, {"file", []string{"C:", "D:"}, []string{"C:"}}, {"file", []string{"a", "C:"}, []string{"a"}}, {"file", []string{"", "C:"}, []string{""}},
		// no normalized drive
		{"file", []string{"C|"}, nil}, {"file", []string{"C"}, nil}, {"file", []string{"C:a"}, nil}, {"file", []string{"CC:"}, nil}, {"file", []string{"1:"}, nil}, {"file", []string{"C%3A"}, nil}, {"file", []string{":"}, nil}, {"file", []string{"::"}, nil}, {"file", []string{":C"}, nil}, {"file", []string{"\u00e9:"}, nil}, {"file", []string{"\xff:"}, nil}, {"file", []string{"\xc3:"}, nil}, {"file", []string{"@:"}, nil}, {"file", []string{"C\u00ba"}, nil}, {"file", []string{"C:\x00"}, nil},
		// other schemes
		{"http", []string{"C:"}, nil}, {"x", []string{"C:"}, nil}, {"", []string{"C:"}, nil}, {"FILE", []string{"C:"}, nil}, {"files", []string{"C:"}, nil}, {"file:", []string{"C:"}, nil}, {"ftp", []string{"C:"}, nil},
	} {
		if got := Shorten(c.scheme, c.l); !slices.Equal(got, c.result) {
			t.Errorf("Shorten(%q, %q) = %q, want %q", c.scheme, c.l, got, c.result)
		}
	}
}

func TestShortenByReference(t *testing.T) {
	of := []string{"", "a", "C:", "z:", "C|", "..", "%2e", "C:a", "1:", "\u00e9:", "\xff"}
	for _, scheme := range schemes {
		sample.Lists(3, of, func(l []string) {
			if got, want := Shorten(scheme, l), referenceShorten(scheme, l); !slices.Equal(got, want) {
				t.Fatalf("Shorten(%q, %q) = %q, want %q", scheme, l, got, want)
			}
		})
	}
}

var walks = []struct {
	scheme string
	from   []string
	text   string
	want   []string
}{
	// the chapter's
	{"http", nil, "a/../b/./c/..", []string{"b", ""}},
	{"http", nil, "a\\b", []string{"a", "b"}},
	{"x", nil, "a\\b", []string{"a\\b"}},
	{"file", nil, "C|/..", []string{"C:", ""}},
	{"http", nil, "%2E%2e/a b", []string{"a%20b"}},
	{"http", nil, "", []string{""}},
	// from a path
	{"http", []string{"x", "y"}, "", []string{"x", "y", ""}},
	{"http", []string{"x", "y"}, "a", []string{"x", "y", "a"}},
	{"http", []string{"x", "y"}, ".", []string{"x", "y", ""}},
	{"http", []string{"x", "y"}, "..", []string{"x", ""}},
	{"http", []string{"x", "y"}, "../..", []string{""}},
	{"http", []string{"x", "y"}, "../../..", []string{""}},
	{"http", []string{"x", "y"}, "../../../a", []string{"a"}},
	{"http", []string{"x", "y"}, "../", []string{"x", ""}},
	{"http", []string{"x", "y"}, "./a/", []string{"x", "y", "a", ""}},
	// what is in the path it starts from stays as it is
	{"http", []string{"..", "a b", "%", "\u00e9", "/"}, "c", []string{"..", "a b", "%", "\u00e9", "/", "c"}},
	{"file", []string{"C|"}, "a", []string{"C|", "a"}},
	// dot segments, last and not
	{"http", nil, ".", []string{""}},
	{"http", nil, "..", []string{""}},
	{"http", nil, "./", []string{""}},
	{"http", nil, "../", []string{""}},
	{"http", nil, "./.", []string{""}},
	{"http", nil, "a/.", []string{"a", ""}},
	{"http", nil, "a/..", []string{""}},
	{"http", nil, "a/../", []string{""}},
	{"http", nil, "a/b/..", []string{"a", ""}},
	{"http", nil, "a/b/../c", []string{"a", "c"}},
	{"http", nil, "a/%2e/%2E%2e/c/%2e", []string{"c", ""}},
	{"http", nil, "a/.%2e", []string{""}},
	{"http", nil, "a/...", []string{"a", "..."}},
	{"http", nil, "a/..b/c..", []string{"a", "..b", "c.."}},
	{"http", nil, "a/%2e%2e%2e/.. ", []string{"a", "%2e%2e%2e", "..%20"}},
	// empty parts are segments
	{"http", nil, "/", []string{"", ""}},
	{"http", nil, "//", []string{"", "", ""}},
	{"http", nil, "/a", []string{"", "a"}},
	{"http", nil, "a//b", []string{"a", "", "b"}},
	{"http", nil, "a//..", []string{"a", ""}},
	{"http", nil, "a//../", []string{"a", ""}},
	{"http", nil, "a//../b", []string{"a", "b"}},
	{"http", nil, "/..", []string{""}},
	// the other separator, for special schemes alone
	{"ws", nil, "\\", []string{"", ""}},
	{"wss", nil, "a\\..\\b/c", []string{"b", "c"}},
	{"ftp", nil, "/\\", []string{"", "", ""}},
	{"file", nil, "a\\.", []string{"a", ""}},
	{"x", nil, "\\", []string{"\\"}},
	{"x", nil, "a\\../b", []string{"a\\..", "b"}},
	{"x", nil, "..\\a", []string{"..\\a"}},
	{"HTTP", nil, "a\\b", []string{"a\\b"}},
	{"", nil, "a\\b/c", []string{"a\\b", "c"}},
	{"http", nil, "a%2Fb%5c", []string{"a%2Fb%5c"}},
	{"http", nil, "a\u2215b\uff0f", []string{"a%E2%88%95b%EF%BC%8F"}},
	// what is encoded
	{"x", nil, " \"#<>?^`{}", []string{"%20%22%23%3C%3E%3F%5E%60%7B%7D"}},
	{"x", nil, "!$%&'()*+,-.:;=@[]_|~", []string{"!$%&'()*+,-.:;=@[]_|~"}},
	{"x", nil, "\x00\x1f\x7f", []string{"%00%1F%7F"}},
	{"x", nil, "\u00e9/\u20ac/\U0001F600", []string{"%C3%A9", "%E2%82%AC", "%F0%9F%98%80"}},
	{"x", nil, "%41/%zz/%", []string{"%41", "%zz", "%"}},
	// drives
	{"file", nil, "C|", []string{"C:"}},
	{"file", nil, "C:", []string{"C:"}},
	{"file", nil, "z|/a", []string{"z:", "a"}},
	{"file", nil, "C|\\a", []string{"C:", "a"}},
	{"file", nil, "C|/", []string{"C:", ""}},
	{"file", nil, "C|/../../a", []string{"C:", "a"}},
	{"file", nil, "C|/a/../..", []string{"C:", ""}},
	{"file", nil, "./C|", []string{"C:"}},
	{"file", nil, "../C|", []string{"C:"}},
	{"file", nil, "a/../C|", []string{"C:"}},
	{"file", nil, "a/../C|/..", []string{"C:", ""}},
	{"file", nil, "C|/D|", []string{"C:", "D|"}},
	{"file", nil, "C|/../D|", []string{"C:", "D|"}},
	{"file", nil, "/C|", []string{"", "C|"}},
	{"file", nil, "a/C|", []string{"a", "C|"}},
	{"file", nil, "C|a/..", []string{""}},
	{"file", nil, "C|?", []string{"C|%3F"}},
	{"file", nil, "C%7C", []string{"C%7C"}},
	{"file", nil, "CC|", []string{"CC|"}},
	{"file", nil, "1|", []string{"1|"}},
	{"file", nil, "C", []string{"C"}},
	{"file", []string{"a"}, "C|", []string{"a", "C|"}},
	{"file", []string{"a"}, "../C|", []string{"C:"}},
	{"file", []string{"C:"}, "..", []string{"C:", ""}},
	{"file", []string{"C:"}, "../a", []string{"C:", "a"}},
	{"file", []string{"C:", "a"}, "../..", []string{"C:", ""}},
	{"file", []string{"C|"}, "..", []string{""}},
	{"file", []string{"C|"}, "../D|", []string{"D:"}},
	{"http", nil, "C|", []string{"C|"}},
	{"http", nil, "C|/..", []string{""}},
	{"x", nil, "C:/../C|", []string{"C|"}},
	{"FILE", nil, "C|/../a", []string{"a"}},
}

func TestWalk(t *testing.T) {
	for _, c := range walks {
		if got := Walk(c.scheme, c.from, []rune(c.text)); !slices.Equal(got, c.want) {
			t.Errorf("Walk(%q, %q, %q) = %q, want %q", c.scheme, c.from, c.text, got, c.want)
		}
	}
	if got := Walk("http", nil, nil); !slices.Equal(got, []string{""}) {
		t.Errorf("through nothing: %q", got)
	}
}

func TestWalkThroughNoScalars(t *testing.T) {
	for _, r := range []rune{-1, -'/', 0xD800, 0xDFFF, 0x110000, 0x11002F, math.MinInt32 + '/', math.MaxInt32} {
		got := Walk("http", nil, []rune{'a', r, '/', r})
		if !slices.Equal(got, []string{"a%EF%BF%BD", "%EF%BF%BD"}) {
			t.Errorf("%x: %q", r, got)
		}
	}
}

// walkByReference compares the path behind a walk with the chapter's.
func walkByReference(t *testing.T, scheme string, l []string, text []rune) {
	t.Helper()
	was, wasText := slices.Clone(l), slices.Clone(text)
	got, want := Walk(scheme, l, text), referenceWalk(scheme, l, text)
	if !slices.Equal(got, want) {
		t.Fatalf("Walk(%q, %q, %q) = %q, want %q", scheme, l, string(text), got, want)
	}
	if !slices.Equal(l, was) || !slices.Equal(text, wasText) {
		t.Fatalf("%q and %x have become %q and %x", was, wasText, l, text)
	}
}

// TestPartsEnd: no part is yielded to what has ended the walk.
func TestPartsEnd(t *testing.T) {
	var seen []string
	for part, last := range parts("http", []rune("a/b/c")) {
		seen = append(seen, string(part))
		if last || len(seen) == 2 {
			break
		}
	}
	if !slices.Equal(seen, []string{"a", "b"}) {
		t.Errorf("%q", seen)
	}
}

// starts: paths that a walk starts from.
var starts = [][]string{nil, {""}, {"a"}, {"C:"}, {"C|"}, {"C:", "b"}, {"a", "C:"}, {"a", "", "c"}, {"..", "."}}

func TestWalksByReference(t *testing.T) {
	for _, scheme := range []string{"file", "http", "x"} {
		sample.Lists(7, []rune("C|/\\."), func(text []rune) { walkByReference(t, scheme, nil, text) })
		for _, l := range starts {
			sample.Lists(4, []rune("aC:|/\\.% "), func(text []rune) { walkByReference(t, scheme, l, text) })
		}
	}
}

func TestWalksOfEachScheme(t *testing.T) {
	for _, scheme := range schemes {
		for _, c := range walks {
			walkByReference(t, scheme, c.from, []rune(c.text))
		}
	}
}

// TestWalksByEachCodePoint puts each code point, and what is none, at each place where it may matter; those above 11000 hexadecimal, at all of them in one walk.
func TestWalksByEachCodePoint(t *testing.T) {
	sample.Runes(-0x400, 0x11000, far, func(r rune) {
		walkByReference(t, "http", nil, []rune{'a', r, '.', '.'})
		walkByReference(t, "x", nil, []rune{'a', r, '.'})
		walkByReference(t, "file", nil, []rune{r, '|', '/', '.', '.'})
		walkByReference(t, "file", nil, []rune{'C', r})
		walkByReference(t, "http", nil, []rune{'a', '/', '%', '2', r})
	})
	sample.Runes(0x11001, 0x110400, nil, func(r rune) {
		walkByReference(t, "file", nil, []rune{r, '|', '/', 'C', r, '/', '.', r})
	})
}

// pieces: what walks may go through, put together.
var pieces = []string{"/", "/", "/", "\\", "..", ".", "%2e", ".%2E", "a", "C|", "z:", "", "b c", "\u00e9", "...", "?", "|", ":", "%"}

// parted returns n pieces with a slash behind each, most of the time.
func parted(next func(below int) int, n int) string {
	var text strings.Builder
	for _, piece := range sample.Pick(next, n, pieces) {
		text.WriteString(piece)
		if next(4) > 0 {
			text.WriteByte('/')
		}
	}
	return text.String()
}

func TestNoiseByReference(t *testing.T) {
	next := sample.Noise(16)
	for range 100000 {
		scheme := schemes[next(len(schemes))]
		walkByReference(t, scheme, starts[next(len(starts))], []rune(parted(next, next(12))))
	}
	of := slices.Concat(far, []rune("////\\\\......%2eaC|:"))
	for range 50000 {
		scheme := schemes[next(len(schemes))]
		walkByReference(t, scheme, starts[next(len(starts))], sample.Pick(next, next(12), of))
	}
}

// TestLong: a walk may go through any number of parts, and through long ones.
func TestLong(t *testing.T) {
	const many = 1 << 18
	down, up := strings.Repeat("a/", many), strings.Repeat("../", many)
	for text, want := range map[string]int{
		down: many + 1, up: 1, down + up: 1, down + up + up + down: many + 1, strings.Repeat("a/../", many): 1, strings.Repeat("a/b/../", many): many + 1,
		strings.Repeat("/", many): many + 1, strings.Repeat("./", many): 1, strings.Repeat(".", many): 1, strings.Repeat("\\", many): many + 1, strings.Repeat("E.", many): 1,
	} {
		if got := Walk("http", nil, []rune(text)); len(got) != want {
			t.Errorf("%.8q…: %d segments, want %d", text, len(got), want)
		}
	}
	l := Walk("file", nil, []rune("C|/"+down))
	if got := Walk("file", l, []rune(up+up)); !slices.Equal(got, []string{"C:", ""}) {
		t.Errorf("back from %d segments: %d", len(l), len(got))
	}
	if got := Shorten("file", l); len(got) != len(l)-1 || !slices.Equal(got, l[:len(l)-1]) {
		t.Errorf("%d segments, shortened: %d", len(l), len(got))
	}
	if long := strings.Repeat("%2E", many); Single(long) || Double(long) || Drive([]rune(long)) || !Begins([]rune("C:/"+long)) {
		t.Error("a long segment")
	}
}

// P16.3

// consequences asks for what the chapter says of all walks from the empty path.
func consequences(t *testing.T, scheme string, text []rune) {
	t.Helper()
	got := Walk(scheme, nil, text)
	if len(got) == 0 {
		t.Fatalf("Walk(%q, nil, %x) has no segment", scheme, text)
	}
	for _, s := range got {
		if Single(s) || Double(s) {
			t.Fatalf("Walk(%q, nil, %x) = %q", scheme, text, got)
		}
	}
	if again := Walk(scheme, nil, []rune(strings.Join(got, "/"))); !slices.Equal(again, got) {
		t.Fatalf("Walk(%q, nil, %x) = %q, and through these %q", scheme, text, got, again)
	}
}

// isOneWalk: a walk through some parts and from there through others is one through all of them, as the last part of the first ones is no dot segment.
func isOneWalk(t *testing.T, scheme string, l []string, first, then []rune) {
	t.Helper()
	half := Walk(scheme, l, first)
	if len(half) == 0 {
		t.Fatalf("Walk(%q, %q, %x) has no segment", scheme, l, first)
	}
	two := Walk(scheme, half, then)
	if one := Walk(scheme, l, slices.Concat(first, []rune{'/'}, then)); !slices.Equal(one, two) {
		t.Fatalf("%q, %q: one walk through %q and %q is %q, two are %q", scheme, l, string(first), string(then), one, two)
	}
}

// endsInDots reports whether the last part of a text is a dot segment.
func endsInDots(scheme string, text []rune) bool {
	parts := referenceParts(scheme, text)
	s := referenceEncoded(parts[len(parts)-1])
	return Single(s) || Double(s)
}

func TestConsequences(t *testing.T) {
	for _, scheme := range schemes {
		for _, c := range walks {
			consequences(t, scheme, []rune(c.text))
		}
		sample.Lists(5, []rune("aC|/\\.%"), func(text []rune) { consequences(t, scheme, text) })
	}
	sample.Runes(-0x400, 0x10400, far, func(r rune) {
		for _, scheme := range []string{"file", "http", "x"} {
			consequences(t, scheme, []rune{r, '|', '/', '.', '.', r})
			consequences(t, scheme, []rune{'C', r, '/', '.', r})
		}
	})
	next := sample.Noise(3)
	for range 50000 {
		consequences(t, schemes[next(len(schemes))], []rune(parted(next, next(12))))
	}
}

func TestTwoWalksAreOne(t *testing.T) {
	next := sample.Noise(4)
	walked := 0
	for range 100000 {
		scheme, l := schemes[next(len(schemes))], starts[next(len(starts))]
		first, then := []rune(parted(next, next(6))), []rune(parted(next, next(6)))
		if endsInDots(scheme, first) {
			continue
		}
		isOneWalk(t, scheme, l, first, then)
		walked++
	}
	if walked < 10000 {
		t.Errorf("only %d walks", walked)
	}
	for _, scheme := range []string{"file", "http", "x"} {
		sample.Lists(3, []rune("C|/\\."), func(l []rune) {
			first := slices.Clone(l)
			if endsInDots(scheme, first) {
				return
			}
			sample.Lists(3, []rune("C|/\\."), func(then []rune) { isOneWalk(t, scheme, nil, first, then) })
		})
	}
}

// R3

// spared returns l with a segment more in its spare capacity, and that segment's place.
func spared(l []string) ([]string, *string) {
	all := append(slices.Clone(l), "SPARE")
	return all[:len(l)], &all[len(l)]
}

func TestArgumentsAreKept(t *testing.T) {
	for _, scheme := range schemes {
		for _, c := range walks {
			l, spare := spared(c.from)
			all := []rune(c.text + "SPARE")
			text := all[:len(all)-len("SPARE")]
			short := Shorten(scheme, l)
			_ = append(short, "x")
			walked := Walk(scheme, l, text)
			_ = append(walked, "x")
			if !slices.Equal(l, c.from) || *spare != "SPARE" || string(all) != c.text+"SPARE" {
				t.Errorf("%q, %q, %q: they have become %q, %q, %q", scheme, c.from, c.text, l, *spare, string(all))
			}
		}
	}
}

func TestResultsAreNew(t *testing.T) {
	for _, scheme := range schemes {
		for _, c := range walks {
			l, text := slices.Clone(c.from), []rune(c.text)
			a, b := Walk(scheme, l, text), Walk(scheme, l, text)
			was := slices.Clone(b)
			clear(a)
			clear(Shorten(scheme, l))
			if !slices.Equal(l, c.from) || string(text) != c.text || !slices.Equal(b, was) {
				t.Errorf("%q: the arguments are %q and %q, another result %q", scheme, l, string(text), b)
			}
		}
	}
	l := []string{"C:"}
	Shorten("file", l)[0] = "x"
	if l[0] != "C:" {
		t.Error("a drive that stays is shared")
	}
}
