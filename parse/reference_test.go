package parse

import (
	"regexp"
	"slices"
	"strconv"
	"strings"

	"fascia/api"
	"fascia/host"
	"fascia/path"
	"fascia/pct"
	"fascia/scheme"
	"fascia/utf"
)

// The chapter's words, followed one by one, in texts: cleaned code points are scalars.

func referenceClean(b []byte) string {
	var l []rune
	for _, c := range utf.Codes(b) {
		l = append(l, c.R)
	}
	for len(l) > 0 && l[0] <= 32 {
		l = l[1:]
	}
	for len(l) > 0 && l[len(l)-1] <= 32 {
		l = l[:len(l)-1]
	}
	return tabs.ReplaceAllString(string(l), "")
}

var tabs = regexp.MustCompile(`[\x09\x0A\x0D]`)

// reader: what the chapter's rules hand on to each other; the base is nil if there is none.
type reader struct {
	scheme            string
	base              *api.URL
	query, hash       string
	hasQuery, hasHash bool
}

func referenceURL(b []byte, base *api.URL) (api.URL, api.Errno) {
	u, e := referenceRead(referenceClean(b), base)
	if e != api.OK {
		return api.URL{}, e
	}
	return u, e
}

func referenceRead(text string, base *api.URL) (api.URL, api.Errno) {
	r := reader{base: base}
	text, r.hash, r.hasHash = strings.Cut(text, "#")
	text, r.query, r.hasQuery = strings.Cut(text, "?")
	s, tail, found := scheme.Cut([]rune(text))
	if found {
		r.scheme = s
		return r.with(string(tail))
	}
	if base == nil {
		return api.URL{}, api.ErrBase
	}
	r.scheme = base.Scheme
	if base.Opaque {
		if text != "" || r.hasQuery || !r.hasHash {
			return api.URL{}, api.ErrBase
		}
		u := *base
		u.HasHash, u.Hash = true, written(2, r.hash)
		return u, api.OK
	}
	if base.Scheme == "file" {
		return r.file(text)
	}
	return r.relative(text)
}

func (r reader) special() bool {
	return slices.Contains([]string{"ftp", "file", "http", "https", "ws", "wss"}, r.scheme)
}

// new returns a URL with what is read already.
func (r reader) new() api.URL {
	u := api.URL{Scheme: r.scheme, Port: -1, HasQuery: r.hasQuery, HasHash: r.hasHash}
	u.Query = written(3, r.query)
	if r.special() {
		u.Query = written(4, r.query)
	}
	u.Hash = written(2, r.hash)
	return u
}

func (r reader) with(tail string) (api.URL, api.Errno) {
	if r.scheme == "file" {
		return r.file(tail)
	}
	if r.special() && r.base != nil && r.base.Scheme == r.scheme {
		if strings.HasPrefix(tail, "//") {
			return r.authority(strings.TrimLeft(tail, `/\`))
		}
		return r.relative(tail)
	}
	if r.special() {
		return r.authority(strings.TrimLeft(tail, `/\`))
	}
	if strings.HasPrefix(tail, "//") {
		return r.authority(tail[len("//"):])
	}
	u := r.new()
	if strings.HasPrefix(tail, "/") {
		u.Path = path.Walk(r.scheme, nil, []rune(tail[1:]))
		return u, api.OK
	}
	u.Opaque = true
	s := written(1, tail)
	if (r.hasQuery || r.hasHash) && strings.HasSuffix(s, " ") {
		s = s[:len(s)-1] + "%20"
	}
	u.Path = []string{s}
	return u, api.OK
}

// twoSlashes, oneSlash, noSlash: what texts begin with, of special schemes and of others.
var (
	twoSlashes = map[bool]*regexp.Regexp{true: regexp.MustCompile(`(?s)\A[/\\][/\\][/\\]*(.*)\z`), false: regexp.MustCompile(`(?s)\A//(.*)\z`)}
	oneSlash   = map[bool]*regexp.Regexp{true: regexp.MustCompile(`(?s)\A[/\\](.*)\z`), false: regexp.MustCompile(`(?s)\A/(.*)\z`)}
	noSlash    = map[bool]*regexp.Regexp{true: regexp.MustCompile(`\A[^/\\]*`), false: regexp.MustCompile(`\A[^/]*`)}
)

func (r reader) relative(text string) (api.URL, api.Errno) {
	if m := twoSlashes[r.special()].FindStringSubmatch(text); m != nil {
		return r.authority(m[1])
	}
	u, base := r.new(), r.base
	u.User, u.Pass, u.Host, u.Port = base.User, base.Pass, base.Host, base.Port
	if m := oneSlash[r.special()].FindStringSubmatch(text); m != nil {
		u.Path = path.Walk(r.scheme, nil, []rune(m[1]))
		return u, api.OK
	}
	if text != "" {
		u.Path = path.Walk(r.scheme, path.Shorten(r.scheme, base.Path), []rune(text))
		return u, api.OK
	}
	u.Path = base.Path
	if !r.hasQuery {
		u.HasQuery, u.Query = base.HasQuery, base.Query
	}
	return u, api.OK
}

// place: a host (a colon between a [ and the next ] is in it), and a port.
var place = regexp.MustCompile(`(?s)\A((?:\[[^\]]*\]|[^:])*)(:(.*))?\z`)

func (r reader) authority(text string) (api.URL, api.Errno) {
	u := r.new()
	front := noSlash[r.special()].FindString(text)
	slashed := len(front) < len(text)
	behind := ""
	if slashed {
		behind = text[len(front)+1:]
	}
	if at := strings.LastIndex(front, "@"); at >= 0 {
		user, pass, _ := strings.Cut(front[:at], ":")
		u.User, u.Pass = written(6, user), written(6, pass)
		front = front[at+1:]
		if front == "" {
			return u, api.ErrMissing
		}
	}
	m := place.FindStringSubmatch(front)
	if m[1] == "" && (m[2] != "" || r.special()) {
		return u, api.ErrMissing
	}
	var e api.Errno
	if u.Host, e = host.Parse([]rune(m[1]), r.special()); e != api.OK {
		return u, e
	}
	if u.Port, e = referencePort(r.scheme, m[3]); e != api.OK {
		return u, e
	}
	if r.special() || slashed {
		u.Path = path.Walk(r.scheme, nil, []rune(behind))
	}
	return u, api.OK
}

func referencePort(s, digits string) (int, api.Errno) {
	if strings.Trim(digits, "0123456789") != "" {
		return 0, api.ErrPort
	}
	if digits == "" {
		return -1, api.OK
	}
	digits = strings.TrimLeft(digits, "0")
	if len(digits) > 5 {
		return 0, api.ErrPort
	}
	port, _ := strconv.Atoi("0" + digits)
	if port > 65535 {
		return 0, api.ErrPort
	}
	if port == scheme.Port(s) {
		return -1, api.OK
	}
	return port, api.OK
}

func (r reader) file(text string) (api.URL, api.Errno) {
	u := r.new()
	u.Host.Kind = api.HostEmpty
	base := r.base
	if base != nil && base.Scheme != "file" {
		base = nil
	}
	if len(text) >= 2 && strings.Trim(text[:2], `/\`) == "" {
		return r.server(u, text[2:])
	}
	if m := oneSlash[true].FindStringSubmatch(text); m != nil {
		var start []string
		if base != nil {
			u.Host = base.Host
			if len(base.Path) > 0 && normalizedDrive.MatchString(base.Path[0]) && !path.Begins([]rune(m[1])) {
				start = []string{base.Path[0]}
			}
		}
		u.Path = path.Walk("file", start, []rune(m[1]))
		return u, api.OK
	}
	if base == nil {
		u.Path = path.Walk("file", nil, []rune(text))
		return u, api.OK
	}
	u.Host = base.Host
	if text == "" {
		u.Path = base.Path
		if !r.hasQuery {
			u.HasQuery, u.Query = base.HasQuery, base.Query
		}
		return u, api.OK
	}
	start := path.Shorten("file", base.Path)
	if path.Begins([]rune(text)) {
		start = nil
	}
	u.Path = path.Walk("file", start, []rune(text))
	return u, api.OK
}

var normalizedDrive = regexp.MustCompile(`\A[A-Za-z]:\z`)

func (r reader) server(u api.URL, text string) (api.URL, api.Errno) {
	name := noSlash[true].FindString(text)
	behind := strings.TrimPrefix(text, name)
	if behind != "" {
		behind = behind[1:]
	}
	if path.Drive([]rune(name)) {
		behind = text
	} else if name != "" {
		h, e := host.Parse([]rune(name), true)
		if e != api.OK {
			return u, e
		}
		if h != (api.Host{Kind: api.HostDomain, Name: "localhost"}) {
			u.Host = h
		}
	}
	u.Path = path.Walk("file", nil, []rune(behind))
	return u, api.OK
}

func written(set uint8, text string) string {
	s, e := pct.Encode(set, []rune(text))
	if e != api.OK {
		panic("there is no such set")
	}
	return s
}
