package parse

import (
	"math"
	"slices"
	"strconv"
	"strings"
	"testing"

	"fascia/api"
	"fascia/host"
	"fascia/path"
	"fascia/sample"
	"fascia/scheme"
	"fascia/utf"
)

// P17.1

func wantClean(t *testing.T, b string) {
	t.Helper()
	if got, want := string(Clean([]byte(b))), referenceClean([]byte(b)); got != want {
		t.Fatalf("Clean(%q) = %q, want %q", b, got, want)
	}
}

func TestClean(t *testing.T) {
	for _, c := range cleaned {
		if got := string(Clean([]byte(c.b))); got != c.want {
			t.Errorf("Clean(%q) = %q, want %q", c.b, got, c.want)
		}
		wantClean(t, c.b)
	}
	if len(Clean(nil)) != 0 {
		t.Error("of nothing")
	}
}

func TestCleanByReference(t *testing.T) {
	sample.Lists(6, []byte{0, '\t', '\n', '\r', ' ', '!', 'a', 0xC3}, func(b []byte) { wantClean(t, string(b)) })
	sample.Runes(0, 0x10FFFF, nil, func(r rune) {
		s := string(r)
		wantClean(t, s+"a"+s+"b"+s)
	})
	for c := range 256 {
		s := string([]byte{byte(c)})
		wantClean(t, s+"a"+s+"b"+s)
	}
}

func TestSame(t *testing.T) {
	for i, a := range different {
		for j, b := range different {
			b.Path = slices.Clone(b.Path)
			if got := Same(a, b); got != (i == j) {
				t.Errorf("Same(%+v, %+v) = %v", a, b, got)
			}
		}
	}
	if !Same(api.URL{Path: nil}, api.URL{Path: []string{}}) || !Same(api.URL{Path: []string{}}, api.URL{}) {
		t.Error("no segments are the same as no segments")
	}
}

// P17.2

// kinds: what is told of a host, before what it is shown as.
var kinds = [...]string{"", "empty", "domain=", "four=", "six=", "name="}

// told returns a text with what u has, so that tables can be read.
func told(u api.URL) string {
	l := []string{u.Scheme}
	add := func(has bool, s string) {
		if has {
			l = append(l, s)
		}
	}
	add(u.User != "", "user="+u.User)
	add(u.Pass != "", "pass="+u.Pass)
	add(u.Host.Kind != api.HostNone, kinds[u.Host.Kind]+host.Show(u.Host))
	add(u.Port != -1, ":"+strconv.Itoa(u.Port))
	add(u.Opaque, "opaque="+strings.Join(u.Path, "|"))
	add(!u.Opaque && len(u.Path) > 0, "/"+strings.Join(u.Path, "/"))
	add(u.HasQuery, "?"+u.Query)
	add(u.HasHash, "#"+u.Hash)
	return strings.Join(l, " ")
}

// mustRead returns the URL that is read from s by itself; nil for an empty text.
func mustRead(t *testing.T, s string) *api.URL {
	t.Helper()
	if s == "" {
		return nil
	}
	u, e := URL([]byte(s), api.URL{}, false)
	if e != api.OK {
		t.Fatalf("the base %q: %d", s, e)
	}
	return &u
}

// read reads b with the base; without one if it is nil.
func read(b []byte, base *api.URL) (api.URL, api.Errno) {
	if base == nil {
		return URL(b, api.URL{}, false)
	}
	return URL(b, *base, true)
}

// byReference compares what is read from s with what the chapter reads, and returns that.
func byReference(t *testing.T, s string, base *api.URL) (api.URL, api.Errno) {
	t.Helper()
	want, wantError := referenceURL([]byte(s), base)
	u, e := read([]byte(s), base)
	if !Same(u, want) || e != wantError {
		t.Fatalf("%q with the base %+v: %+v, %d, want %+v, %d", s, base, u, e, want, wantError)
	}
	if e == api.OK {
		wantConsequences(t, u)
	}
	return u, e
}

func TestRight(t *testing.T) {
	for _, c := range right {
		base := mustRead(t, c.base)
		u, e := read([]byte(c.s), base)
		if got := told(u); e != api.OK || got != c.want {
			t.Errorf("%q with the base %q: %q, %d, want %q", c.s, c.base, got, e, c.want)
		}
		byReference(t, c.s, base)
	}
}

func TestWrong(t *testing.T) {
	for _, c := range wrong {
		base := mustRead(t, c.base)
		u, e := read([]byte(c.s), base)
		if e != c.want || !Same(u, api.URL{}) {
			t.Errorf("%q with the base %q: %+v, %d, want %d", c.s, c.base, u, e, c.want)
		}
		byReference(t, c.s, base)
	}
}

// TestBaseIsNotAsked: without has, a base that is given does not matter.
func TestBaseIsNotAsked(t *testing.T) {
	for _, b := range bases {
		base := *mustRead(t, b)
		for _, s := range texts() {
			u, e := URL([]byte(s), base, false)
			if want, wantError := URL([]byte(s), api.URL{}, false); !Same(u, want) || e != wantError {
				t.Errorf("%q is not the same where %q is given", s, b)
			}
		}
	}
}

// bases: texts of bases of all kinds.
var bases = []string{
	"http://u:p@h:81/a/b?q#f", "https://h/", "ws://[::1]/a?", "ftp://1.2.3.4//", "http://h/C:/a",
	"file:///C:/a/b?q#f", "file://srv/a/b", "file:///", "file:///C:", "file://srv/C:/x", "file:////x/", "file:///a/C:/",
	"a://u:p@h:1/x/y?q#f", "a://h", "a://h?q", "a://", "a:///p/q", "a:/b/c?q", "a:/.//p", "a:b?c#d", "a:", "mailto:x y#",
}

// texts returns those of the tables, and the bases.
func texts() []string {
	l := slices.Clone(bases)
	for _, c := range right {
		l = append(l, c.s)
	}
	for _, c := range wrong {
		l = append(l, c.s)
	}
	return l
}

// withEachBase calls see without a base, and with each one.
func withEachBase(t *testing.T, see func(base *api.URL)) {
	see(nil)
	for _, b := range bases {
		see(mustRead(t, b))
	}
}

func TestTextsByReference(t *testing.T) {
	withEachBase(t, func(base *api.URL) {
		for _, s := range texts() {
			byReference(t, s, base)
		}
	})
}

func TestListsByReference(t *testing.T) {
	starts := []string{"http:", "http://", "file:", "file://", "a:", "a://"}
	of := []string{"/", "\\", "?", "#", "@", ":", "C|", "h", "..", "[", "]", " ", "0"}
	sample.Lists(4, of, func(l []string) {
		for _, start := range starts {
			byReference(t, start+strings.Join(l, ""), nil)
		}
	})
	withEachBase(t, func(base *api.URL) {
		sample.Lists(3, append(of, "http:", "file:", "a:"), func(l []string) { byReference(t, strings.Join(l, ""), base) })
	})
}

// encodedByReference puts c at each place where it is encoded.
func encodedByReference(t *testing.T, c string) {
	t.Helper()
	byReference(t, "a://u"+c+"v:p"+c+"q@h"+c+"i:8/p"+c+"q?r"+c+"s#t"+c+"u", nil)
	byReference(t, "http://u"+c+"v:p"+c+"q@h/p"+c+"q?r"+c+"s#t"+c+"u", nil)
	byReference(t, "a:b"+c+"c", nil)
}

// TestEachCodePointByReference puts each code point at each place where it may matter; those that look like no others, many at once and only where they are encoded.
func TestEachCodePointByReference(t *testing.T) {
	base := mustRead(t, "http://h/a/b?q#f")
	alone := func(r rune) {
		c := string(r)
		encodedByReference(t, c)
		byReference(t, c+"a:b", nil)
		byReference(t, "a"+c+"://h/", base)
		byReference(t, "a:"+c+"/b"+c+"?"+c, nil)
		byReference(t, "http://h"+c+"i/", nil)
		byReference(t, "http:"+c+"//i:1"+c+"2", base)
		byReference(t, "file:/"+c+"C|"+c+"a", nil)
		byReference(t, "//h:8"+c+"0", base)
	}
	sample.Runes(0, 0x700, nil, alone)
	sample.Runes(0x2000, 0x2300, nil, alone)
	sample.Runes(0xFE00, 0x10080, nil, alone)
	var together []rune
	sample.Runes(0x80, 0x10FFFF, nil, func(r rune) {
		together = append(together, r)
		if len(together) == 64 || r == 0x10FFFF {
			encodedByReference(t, string(together))
			together = nil
		}
	})
}

// TestEachByteByReference puts each byte at each place of some texts.
func TestEachByteByReference(t *testing.T) {
	for _, s := range []string{"http://u:p@h:81/a?q#f", "file://C|/a", "a:b ?q", "../x?y"} {
		for _, base := range []*api.URL{nil, mustRead(t, "http://h/a/b"), mustRead(t, "file:///C:/a")} {
			for i := range len(s) + 1 {
				for c := range 256 {
					byReference(t, s[:i]+string([]byte{byte(c)})+s[i:], base)
				}
			}
		}
	}
}

// pieces: what addresses are put together of.
var pieces = []string{
	"http:", "HTTP:", "file:", "a:", "ws:", "https:", "x+y:", "/", "/", "/", "//", "\\", "?", "#", "@", ":", ":", "[::1]", "[", "]", "C|", "C:", "..", ".", "%2e", "localhost", "h", "1.2.3.4", "1.2",
	"80", "443", "65535", "65536", "0", " ", "\t", "\n", "\r", "\u00e9", "'", "\xff", "a", "b", "%", "%41", "\"", "<", "|", "^", "xn--", "\u05d0", "\uff0f", "\uff1a", "\x00", "\x7f", "u:p@", "\U0001f600",
}

var begins = []string{"", "", "", "http:", "http://", "file:", "file://", "a:", "a://", "https:\\\\", "ws:/"}

func noisy(next func(below int) int) string {
	return begins[next(len(begins))] + strings.Join(sample.Pick(next, next(10), pieces), "")
}

// TestNoiseByReference: what is read becomes a base.
func TestNoiseByReference(t *testing.T) {
	next := sample.Noise(17)
	found := map[api.Errno]int{}
	const times = 200000
	for i := 0; i < times; {
		withEachBase(t, func(base *api.URL) {
			for range 10 {
				u, e := byReference(t, noisy(next), base)
				if e == api.OK && next(4) == 0 {
					base = &u
				}
				found[e]++
				i++
			}
		})
	}
	for _, e := range []api.Errno{api.OK, api.ErrBase, api.ErrMissing, api.ErrHost, api.ErrSix, api.ErrFour, api.ErrPort} {
		if found[e] < times/1000 {
			t.Errorf("the error %d is found %d times in %d", e, found[e], times)
		}
	}
}

// TestLong: no text is too long, but for a domain.
func TestLong(t *testing.T) {
	const some, more, many = 1 << 11, 1 << 16, 1 << 20
	for _, one := range []string{"a", "/", "\\", "../", "a/", "@", ":", "u:p@", "?", "#", "[", "]", "[:", "0", "%", "%2e/", " ", "\t", "\u00fc", "\xff", "C|/", "a:"} {
		for _, before := range []string{"", "http:", "http://h/", "http://h?", "http://h#", "http://", "http://u", "http://h:", "http://[", "file:", "file://", "a:", "a://", "a://h/"} {
			for _, behind := range []string{"", "@h", "?#"} {
				byReference(t, before+strings.Repeat(one, some)+behind, mustRead(t, bases[0]))
			}
			URL([]byte(before+strings.Repeat(one, more)), api.URL{}, false)
		}
	}
	u, e := URL([]byte("http://h:"+strings.Repeat("0", many)+"81/"+strings.Repeat("a/", many)), api.URL{}, false)
	if e != api.OK || u.Port != 81 || len(u.Path) != many+1 {
		t.Errorf("%d, the port %d, %d segments", e, u.Port, len(u.Path))
	}
	up, e := URL([]byte(strings.Repeat("../", 2*many)+"b"), u, true)
	if e != api.OK || up.Port != 81 || !slices.Equal(up.Path, []string{"b"}) {
		t.Errorf("%d, the port %d, %.40q", e, up.Port, up.Path)
	}
}

// TestAnyBase: whatever the base is, a call returns (R1).
func TestAnyBase(t *testing.T) {
	odd := slices.Clone(different)
	for _, s := range []string{"", "file", "FILE", "http", "a", "\xff", "a b:"} {
		for _, l := range [][]string{nil, {""}, {"C|"}, {"a", "\xff"}} {
			for _, opaque := range []bool{false, true} {
				odd = append(odd, api.URL{Scheme: s, Host: api.Host{Kind: 99}, Port: math.MinInt, Opaque: opaque, Path: l})
			}
		}
	}
	for _, base := range odd {
		for _, s := range texts() {
			if u, e := URL([]byte(s), base, true); e != api.OK && !Same(u, api.URL{}) {
				t.Errorf("%q with the base %+v: %d, and %+v", s, base, e, u)
			}
		}
	}
}

// P17.3

// ascii reports whether s is ASCII that is seen, or spaces.
func ascii(s string) bool {
	return !strings.ContainsFunc(s, func(r rune) bool { return r < ' ' || r > '~' })
}

// wantConsequences asks for what is true of all URLs that are read.
func wantConsequences(t *testing.T, u api.URL) {
	t.Helper()
	l := append([]string{u.Scheme, u.User, u.Pass, u.Host.Name, u.Query, u.Hash}, u.Path...)
	if i := slices.IndexFunc(l, func(s string) bool { return !ascii(s) }); i >= 0 {
		t.Fatalf("%+v: %q is not ASCII", u, l[i])
	}
	if !scheme.Right(u.Scheme) || u.Port < -1 || u.Port > 65535 || u.Port != -1 && u.Port == scheme.Port(u.Scheme) {
		t.Fatalf("%+v: the scheme, or the port", u)
	}
	if !u.HasQuery && u.Query != "" || !u.HasHash && u.Hash != "" {
		t.Fatalf("%+v: what is not there is not empty", u)
	}
	special := scheme.Special(u.Scheme)
	if u.Opaque && (len(u.Path) != 1 || u.Host != api.Host{} || special) || special && len(u.Path) == 0 {
		t.Fatalf("%+v: the path", u)
	}
	nobody := u.User == "" && u.Pass == "" && u.Port == -1
	if (u.Scheme == "file" || u.Host.Kind == api.HostNone || u.Host.Kind == api.HostEmpty) && !nobody {
		t.Fatalf("%+v: somebody, or a port, without a host", u)
	}
	if u.Opaque {
		return
	}
	for _, s := range u.Path {
		if path.Single(s) || path.Double(s) || strings.ContainsAny(s, "/?# ") || special && strings.Contains(s, "\\") {
			t.Fatalf("%+v: the segment %q", u, s)
		}
	}
}

// TestOtherSchemesAlone: a URL with a scheme of its own that is not special does not depend on the base.
func TestOtherSchemesAlone(t *testing.T) {
	next := sample.Noise(3)
	behind := texts()
	for range 2000 {
		behind = append(behind, noisy(next))
	}
	for _, s := range behind {
		s = []string{"a:", "a://", "A:/", "mailto:", "files://"}[next(5)] + s
		want, wantError := URL([]byte(s), api.URL{}, false)
		withEachBase(t, func(base *api.URL) {
			if u, e := read([]byte(s), base); !Same(u, want) || e != wantError {
				t.Fatalf("%q: alone %+v, %d; with the base %+v %+v, %d", s, want, wantError, base, u, e)
			}
		})
	}
}

// stirred returns s with noise at its ends, and tabs and line breaks anywhere between its code points.
func stirred(next func(below int) int, s string) string {
	removed := []string{"\t", "\n", "\r"}
	var out strings.Builder
	out.WriteString(strings.Join(sample.Pick(next, next(3), []string{" ", "\x00", "\x1f", "\n"}), ""))
	for _, r := range s {
		out.WriteString(string(r) + strings.Join(sample.Pick(next, next(2), removed), ""))
	}
	return out.String() + strings.Join(sample.Pick(next, next(3), []string{" ", "\x00", "\x1f", "\r"}), "")
}

// TestCleanedBytesMatter: what is read from bytes is what is read from their cleaned code points, and from these with noise.
func TestCleanedBytesMatter(t *testing.T) {
	next := sample.Noise(5)
	withEachBase(t, func(base *api.URL) {
		l := texts()
		for range 2000 {
			l = append(l, noisy(next))
		}
		for _, s := range l {
			want, wantError := read([]byte(s), base)
			clean := string(Clean([]byte(s)))
			for _, other := range []string{clean, stirred(next, clean), " \n" + s + "\r\x00"} {
				if u, e := read([]byte(other), base); !Same(u, want) || e != wantError {
					t.Fatalf("%q: %+v, %d; %q: %+v, %d", s, want, wantError, other, u, e)
				}
			}
		}
	})
}

// TestCleanAgain: what is cleaned is clean.
func TestCleanAgain(t *testing.T) {
	next := sample.Noise(6)
	for _, s := range texts() {
		l := Clean([]byte(stirred(next, s)))
		if again := Clean(utf.Encode(l)); !slices.Equal(again, l) {
			t.Errorf("%q, cleaned again: %q", string(l), string(again))
		}
	}
}

// R3

// TestArgumentsAreKept: neither the bytes nor the path of the base, nor what stands behind their ends.
func TestArgumentsAreKept(t *testing.T) {
	withEachBase(t, func(base *api.URL) {
		if base == nil {
			base = &api.URL{}
		}
		segments := append(slices.Clone(base.Path), "SPARE")
		was := slices.Clone(segments)
		base.Path = segments[:len(segments)-1]
		for _, s := range texts() {
			all := []byte(s + "SPARE")
			b := all[:len(s)]
			l := Clean(b)
			_ = append(l, 'x')
			u, _ := URL(b, *base, true)
			_ = append(u.Path, "x")
			clear(u.Path)
			if string(all) != s+"SPARE" || !slices.Equal(segments, was) {
				t.Fatalf("%q, %q: they have become %q, %q", s, was, string(all), segments)
			}
		}
	})
}

func TestResultsAreNew(t *testing.T) {
	withEachBase(t, func(base *api.URL) {
		for _, s := range texts() {
			a, _ := read([]byte(s), base)
			b, _ := read([]byte(s), base)
			was := slices.Clone(b.Path)
			clear(a.Path)
			if !slices.Equal(b.Path, was) {
				t.Fatalf("%q: results share their paths", s)
			}
			one, other := Clean([]byte(s)), Clean([]byte(s))
			clear(one)
			if string(other) != referenceClean([]byte(s)) {
				t.Fatalf("%q: results share their code points", s)
			}
		}
	})
}
