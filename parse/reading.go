package parse

import (
	"slices"
	"strings"

	"fascia/api"
	"fascia/path"
	"fascia/scheme"
)

const (
	file   = "file"
	noPort = -1
)

// way is how a text goes on.
type way uint8

const (
	asNothing way = iota
	asFile
	asRelative
	asAuthority
	asRooted
	asOpaque
)

// reading is a URL so far, and the base that it is read with, if it has one.
type reading struct {
	url  api.URL
	base api.URL
	has  bool
}

// ways returns what reads a text that goes on in each way.
func (r *reading) ways() map[way]func(text []rune) api.Errno {
	return map[way]func(text []rune) api.Errno{
		asNothing:   r.nothing,
		asFile:      r.file,
		asRelative:  r.relative,
		asAuthority: r.authority,
		asRooted:    r.rooted,
		asOpaque:    r.opaque,
	}
}

// read reads the URL from cleaned code points.
func (r *reading) read(l []rune) api.Errno {
	front, hash, hasHash := splitAt(l, '#')
	rest, query, hasQuery := splitAt(front, '?')
	r.url.Port, r.url.HasQuery, r.url.HasHash = noPort, hasQuery, hasHash
	how, text := r.begin(rest)
	r.url.Query = encode(r.querySet(), query)
	r.url.Hash = encode(api.SetHash, hash)
	return r.ways()[how](text)
}

// begin finds the scheme of the URL, and returns how its text goes on.
func (r *reading) begin(rest []rune) (way, []rune) {
	s, tail, own := scheme.Cut(rest)
	if own {
		r.url.Scheme = s
		return r.behindScheme(tail), tail
	}
	r.url.Scheme = r.base.Scheme
	return r.withoutScheme(rest), rest
}

// behindScheme returns how the text goes on behind a scheme of its own.
func (r *reading) behindScheme(tail []rune) way {
	special := r.special()
	switch {
	case r.url.Scheme == file:
		return asFile
	case special && r.has && r.base.Scheme == r.url.Scheme:
		// A tail that begins with // has an authority as a relative one, too.
		return asRelative
	case special || r.slashes(tail) >= 2:
		return asAuthority
	case r.slashes(tail) == 1:
		return asRooted
	}
	return asOpaque
}

// withoutScheme returns how a text goes on that has no scheme of its own.
func (r *reading) withoutScheme(rest []rune) way {
	hashAlone := len(rest) == 0 && !r.url.HasQuery && r.url.HasHash
	switch {
	case !r.has || r.base.Opaque && !hashAlone:
		return asNothing
	case r.url.Scheme == file:
		return asFile
	}
	return asRelative
}

func (r *reading) special() bool {
	return scheme.Special(r.url.Scheme)
}

func (r *reading) querySet() uint8 {
	if r.special() {
		return api.SetSpecial
	}
	return api.SetQuery
}

// slash reports whether c is a slash for the scheme of the URL.
func (r *reading) slash(c rune) bool {
	return c == '/' || c == '\\' && r.special()
}

// slashes returns how many slashes there are at the beginning of the text.
func (r *reading) slashes(text []rune) int {
	n := 0
	for n < len(text) && r.slash(text[n]) {
		n++
	}
	return n
}

// splitAtSlash splits the text at its first slash.
func (r *reading) splitAtSlash(text []rune) (before, behind []rune, found bool) {
	return split(text, slices.IndexFunc(text, r.slash))
}

// nothing: there is no base that the text could go on from.
func (r *reading) nothing([]rune) api.Errno {
	return api.ErrBase
}

// opaque reads an opaque path.
func (r *reading) opaque(text []rune) api.Errno {
	s := encode(api.SetControl, text)
	if before, found := strings.CutSuffix(s, " "); found && (r.url.HasQuery || r.url.HasHash) {
		s = before + "%20"
	}
	r.url.Opaque, r.url.Path = true, []string{s}
	return api.OK
}

// rooted reads a path behind one slash, without a host.
func (r *reading) rooted(text []rune) api.Errno {
	r.walk(nil, text[1:])
	return api.OK
}

// relative reads what goes on from a base that is no file.
func (r *reading) relative(text []rune) api.Errno {
	n := r.slashes(text)
	if n >= 2 {
		return r.authority(text)
	}
	r.stay()
	if n == 1 {
		return r.rooted(text)
	}
	r.follow(text)
	return api.OK
}

// walk makes the path of the URL the walk from a path through the text.
func (r *reading) walk(from []string, text []rune) {
	r.url.Path = path.Walk(r.url.Scheme, from, text)
}

// stay keeps what stands before the path of the base.
func (r *reading) stay() {
	r.url.User, r.url.Pass = r.base.User, r.base.Pass
	r.url.Host, r.url.Port = r.base.Host, r.base.Port
}

// follow goes on from the path of the base, which may be an opaque one if the
// text is empty.
func (r *reading) follow(text []rune) {
	if len(text) > 0 {
		r.walk(path.Shorten(r.url.Scheme, r.base.Path), text)
		return
	}
	r.url.Opaque, r.url.Path = r.base.Opaque, slices.Clone(r.base.Path)
	if !r.url.HasQuery {
		r.url.HasQuery, r.url.Query = r.base.HasQuery, r.base.Query
	}
}
