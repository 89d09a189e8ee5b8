package write

import (
	"fmt"
	"math"
	"slices"
	"strconv"
	"strings"
	"testing"

	"fascia/api"
	"fascia/parse"
	"fascia/sample"
)

// P18.1

// told returns the pieces as one text, so that tables can be read.
func told(pieces []api.Piece) string {
	var l []string
	for _, p := range pieces {
		l = append(l, strconv.Itoa(int(p.Part))+p.Text)
	}
	return strings.Join(l, " ")
}

// byReference compares what is written of u with what the chapter writes.
func byReference(t *testing.T, u api.URL) {
	t.Helper()
	if got, want := Pieces(u), referencePieces(u); !slices.Equal(got, want) {
		t.Fatalf("Pieces(%+v) = %q, want %q", u, told(got), told(want))
	}
	if got, want := Text(u), referenceText(u); got != want {
		t.Fatalf("Text(%+v) = %q, want %q", u, got, want)
	}
	if got, want := Right(u), referenceRight(u); got != want {
		t.Fatalf("Right(%+v) = %v, want %v", u, got, want)
	}
}

func TestWritten(t *testing.T) {
	for _, c := range written {
		if got := told(Pieces(c.u)); got != c.want {
			t.Errorf("Pieces(%+v) = %q, want %q", c.u, got, c.want)
		}
		if !Right(c.u) {
			t.Errorf("%q is right", Text(c.u))
		}
		byReference(t, c.u)
	}
}

func TestWrong(t *testing.T) {
	for _, c := range wrong {
		if got := told(Pieces(c.u)); got != c.want {
			t.Errorf("Pieces(%+v) = %q, want %q", c.u, got, c.want)
		}
		if Right(c.u) {
			t.Errorf("%q is not right: %+v", Text(c.u), c.u)
		}
		byReference(t, c.u)
	}
}

func TestText(t *testing.T) {
	for _, c := range []struct {
		u    api.URL
		want string
	}{
		{api.URL{}, ":"},
		{written[0].u, "http://u@h:8080/a/?q"},
		{written[1].u, "a:/.//p"},
		{written[2].u, "mailto:a"},
		{written[3].u, "file:///C:"},
		{api.URL{Scheme: "a", User: "u", Pass: "p", Host: colons, Port: -20, Path: []string{"", "x"}, HasQuery: true, HasHash: true, Hash: "\xff"}, "a://u:p@[::1]:-20//x?#\xff"},
	} {
		if got := Text(c.u); got != c.want {
			t.Errorf("Text(%+v) = %q, want %q", c.u, got, c.want)
		}
	}
}

// texts: what may stand in any field.
var texts = []string{"", "", "a", "http", "h", "%", "%20", ".", "..", "%2e", "/", "//", "?", "#", "@", ":", "C:", "C|", " ", "\t", "\x00", "\x7f", "\u00fc", "\xff", "'", "[", "]", "[::1]", "1", "\\", "localhost"}

// hosts: those of all kinds, and of some that there are not.
func hosts() []api.Host {
	l := []api.Host{none, empty, dotted, colons, {Kind: api.HostFour}, {Kind: api.HostSix}, {Name: "h"}, {Four: 1}}
	for kind := range 8 {
		l = append(l, api.Host{Kind: uint8(kind), Name: "h"}, api.Host{Kind: uint8(kind), Name: "1", Four: 1})
	}
	return append(l, api.Host{Kind: 255, Name: "h", Six: colons.Six})
}

var ports = []int{-1, -1, -1, 0, 1, 21, 80, 443, 8080, 65535, 65536, -2, -10, math.MaxInt, math.MinInt}

// noisy returns a URL of any fields.
func noisy(next func(below int) int) api.URL {
	text := func() string { return sample.Pick(next, 1, texts)[0] }
	schemes := []string{"http", "https", "file", "a", "a", "ws", "mailto", text()}
	l := hosts()
	u := api.URL{Scheme: schemes[next(len(schemes))], Host: l[next(len(l))], Port: ports[next(len(ports))]}
	u.Opaque, u.HasQuery, u.HasHash = next(4) == 0, next(2) == 0, next(2) == 0
	u.Path = sample.Pick(next, next(4), texts)
	for _, field := range []*string{&u.User, &u.Pass, &u.Query, &u.Hash} {
		if next(3) == 0 {
			*field = text()
		}
	}
	return u
}

func TestNoiseByReference(t *testing.T) {
	next := sample.Noise(18)
	right := 0
	const times = 100000
	for range times {
		u := noisy(next)
		byReference(t, u)
		if Right(u) {
			right++
		}
	}
	if right < times/500 {
		t.Errorf("%d of %d are right", right, times)
	}
}

// TestEachFieldByReference puts together all that makes a difference to what is a piece.
func TestEachFieldByReference(t *testing.T) {
	either := []bool{false, true}
	var urls []api.URL
	for _, s := range []string{"", "a", "http", "file"} {
		for _, user := range []string{"", "u"} {
			for _, pass := range []string{"", "p"} {
				for _, h := range hosts() {
					for _, port := range []int{-2, -1, 0, 81} {
						urls = append(urls, api.URL{Scheme: s, User: user, Pass: pass, Host: h, Port: port})
					}
				}
			}
		}
	}
	paths := [][]string{nil, {""}, {"x"}, {"", ""}, {"", "x"}, {"x", ""}, {"x", "y"}, {"", "", ""}, {"", "x", "y"}}
	for _, u := range urls {
		for _, u.Path = range paths {
			for _, u.Opaque = range either {
				for _, u.HasQuery = range either {
					byReference(t, u)
					u.Query, u.HasHash = "q", true
					byReference(t, u)
					u.Hash = "f"
					byReference(t, u)
					u.Query, u.Hash, u.HasHash = "", "", false
				}
			}
		}
	}
}

// TestEachByte puts each byte into each field: all of them are written as they are.
func TestEachByte(t *testing.T) {
	for c := range 256 {
		s := string([]byte{byte(c)})
		for _, h := range []api.Host{none, named(s), opaque("h")} {
			for _, opaquePath := range []bool{false, true} {
				u := api.URL{Scheme: "a" + s, User: s, Pass: s, Host: h, Port: 8, Opaque: opaquePath, Path: []string{s, s}, HasQuery: true, Query: s, HasHash: true, Hash: s}
				byReference(t, u)
			}
		}
	}
}

// TestLong: no URL is too long.
func TestLong(t *testing.T) {
	const many = 1 << 18
	u := api.URL{Scheme: "a", Host: opaque("h"), Port: -1, Path: slices.Repeat([]string{"", "b"}, many), HasQuery: true, Query: strings.Repeat("q", many)}
	if got, want := Text(u), "a://h"+strings.Repeat("//b", many)+"?"+u.Query; got != want {
		t.Errorf("%.40q, %d bytes", got, len(got))
	}
	if n := len(Pieces(u)); n != 4+3*many+2 {
		t.Errorf("%d pieces", n)
	}
	if !Right(u) {
		t.Error("it is right")
	}
}

// P18.2

// addresses: what is parsed; those behind the first ones go on from each of these.
var addresses = []string{
	"http://u:p@EX.com:81/a/b?q#f", "https://h", "ws://[::1]/a?", "ftp://1.2.3.4//", "http://:p@h/C:/a", "http://B\u00fccher.de:80/\u00fc",
	"file:///C:/a/b?q#f", "file://srv/a/b", "file:///", "file:C|", "file://srv/C:/x", "file:////x/", "file:///a/C|/",
	"a://u:p@h:1/x/y?q#f", "a://h", "a://h?q", "a://", "a:///p/q", "a:/b/c?q", "a:/.//p", "a:b?c#d", "a:", "mailto:x y #", "a://[1::]:0/",
}

var more = []string{"", "?", "#", "?#", "x", "/", "//g", ".", "..", "../..", "/x/..//y", "/.//", "..//x", "./", "C|", "/C|/..", "/x/../C|", "?'", "#'", " ", "a b", "http:x", "file:x", "a:x ", "a:x ?", "a: ", "a:/..//x", "HTTP:\\\\h\\\\x"}

// pieces: what addresses are put together of.
var pieces = []string{
	"http:", "file:", "a:", "ws:", "/", "/", "/", "//", "\\", "?", "#", "@", ":", "[::1]", "C|", "C:", "..", ".", "%2e", "localhost", "h", "1.2",
	"80", "443", "0", " ", "\t", "\u00e9", "'", "\xff", "a", "%", "%41", "\"", "|", "^", "\u05d0", "\uff0f", "\x00", "\x7f", "u:p@", "\U0001f600",
}

// parsed calls see with URLs of all kinds that are parsed.
func parsed(see func(api.URL)) {
	read := func(s string, base api.URL, has bool) api.URL {
		u, e := parse.URL([]byte(s), base, has)
		if e == api.OK {
			see(u)
		}
		return u
	}
	next := sample.Noise(81)
	for _, s := range addresses {
		base := read(s, api.URL{}, false)
		for _, s := range more {
			read(s, base, true)
		}
		sample.Lists(3, []string{"/", "?", "..", "C|", "x", "//", ".", " "}, func(l []string) { read(strings.Join(l, ""), base, true) })
		sample.Lists(2, pieces, func(l []string) { read(strings.Join(l, ""), base, true) })
		for range 4000 {
			read(strings.Join(sample.Pick(next, next(8), pieces), ""), base, true)
		}
	}
	sample.Lists(4, []string{"/", "?", "#", "@", ":", "..", "C|", "h", " ", "0"}, func(l []string) {
		for _, start := range []string{"http:", "file:", "file://", "a:", "a://"} {
			read(start+strings.Join(l, ""), api.URL{}, false)
		}
	})
}

// TestParsedIsRight: what is parsed is parsed again from its text, and written as it was.
func TestParsedIsRight(t *testing.T) {
	parsed(func(u api.URL) {
		if !Right(u) {
			t.Fatalf("%q is right: %+v", Text(u), u)
		}
		s := Text(u)
		again, e := parse.URL([]byte(s), api.URL{}, false)
		if e != api.OK || !equal(again, u) || Text(again) != s || !slices.Equal(Pieces(again), Pieces(u)) {
			t.Fatalf("%q, %+v: parsed again %+v, %d", s, u, again, e)
		}
	})
}

// TestRightAnywhere: with a base, too, a text that was written is parsed as it was.
func TestRightAnywhere(t *testing.T) {
	base, _ := parse.URL([]byte("http://u:p@h:81/a/b?q#f"), api.URL{}, false)
	parsed(func(u api.URL) {
		if again, e := parse.URL([]byte(Text(u)), base, true); e != api.OK || !equal(again, u) {
			t.Fatalf("%q, %+v: with a base %+v, %d", Text(u), u, again, e)
		}
	})
}

// TestSameTextExactlyIfSame: URLs that are the same have one text, and a text is that of one URL.
func TestSameTextExactlyIfSame(t *testing.T) {
	texts := map[string]string{}
	urls := map[string]string{}
	parsed(func(u api.URL) {
		if len(u.Path) == 0 {
			u.Path = nil
		}
		key, s := fmt.Sprintf("%#v", u), Text(u)
		if was, known := texts[key]; known && was != s {
			t.Fatalf("%s has the texts %q and %q", key, was, s)
		}
		if was, known := urls[s]; known && was != key {
			t.Fatalf("%q is the text of %s and of %s", s, was, key)
		}
		texts[key], urls[s] = s, key
	})
	if len(urls) < 10000 {
		t.Errorf("%d URLs alone", len(urls))
	}
}

// TestChangedIsAsReference changes one field of what is parsed.
func TestChangedIsAsReference(t *testing.T) {
	for _, s := range addresses {
		was, _ := parse.URL([]byte(s), api.URL{}, false)
		for _, text := range texts {
			for i := range 6 {
				u := was
				u.Path = slices.Clone(was.Path)
				fields := [...]*string{&u.Scheme, &u.User, &u.Pass, &u.Host.Name, &u.Query, &u.Hash}
				*fields[i] = text
				byReference(t, u)
			}
			for i := range was.Path {
				u := was
				u.Path = slices.Clone(was.Path)
				u.Path[i] = text
				byReference(t, u)
				u.Path = slices.Insert(slices.Clone(was.Path), i, text)
				byReference(t, u)
			}
		}
		for _, port := range ports {
			u := was
			u.Port = port
			byReference(t, u)
		}
		for _, h := range hosts() {
			u := was
			u.Host = h
			byReference(t, u)
		}
		for i := range 3 {
			u := was
			flags := [...]*bool{&u.Opaque, &u.HasQuery, &u.HasHash}
			*flags[i] = !*flags[i]
			byReference(t, u)
		}
	}
}

// R3

// TestArgumentsAreKept: the path stays, and so does what stands behind its end.
func TestArgumentsAreKept(t *testing.T) {
	for _, c := range append(slices.Clone(written), wrong...) {
		all := append(slices.Clone(c.u.Path), "SPARE")
		was := slices.Clone(all)
		c.u.Path = all[:len(all)-1]
		l := Pieces(c.u)
		_ = append(l, api.Piece{Text: "x"})
		clear(l)
		Text(c.u)
		Right(c.u)
		if !slices.Equal(all, was) {
			t.Errorf("%q: the path has become %q", was, all)
		}
	}
}

func TestResultsAreNew(t *testing.T) {
	for _, c := range written {
		one, other := Pieces(c.u), Pieces(c.u)
		clear(one)
		if told(other) != c.want || told(Pieces(c.u)) != c.want {
			t.Errorf("%q: results share their pieces", c.want)
		}
	}
}
