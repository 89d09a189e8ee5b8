package parse

import (
	"fascia/api"
	"fascia/host"
	"fascia/scheme"
)

const maxPort = 65535

// authority reads user, password, host and port behind the slashes that the
// text begins with, and the path.
func (r *reading) authority(text []rune) api.Errno {
	front, behind, slashed := r.splitAtSlash(r.behindSlashes(text))
	who, place, asks := split(front, last(front, '@'))
	if !asks {
		who, place = nil, front
	}
	r.login(who)
	name, digits, colon := split(place, portColon(place))
	// An empty name behind an @ is nothing at all, or stands before a colon.
	if len(name) == 0 && (asks || colon || r.special()) {
		return api.ErrMissing
	}
	h, e := host.Parse(name, r.special())
	if e != api.OK {
		return e
	}
	r.url.Host = h
	if slashed || r.special() {
		r.walk(nil, behind)
	}
	return r.port(digits)
}

// behindSlashes returns the text behind the slashes before an authority: all of
// them for a special scheme, two for another one.
func (r *reading) behindSlashes(text []rune) []rune {
	n := r.slashes(text)
	if !r.special() {
		n = min(n, 2)
	}
	return text[n:]
}

// login reads the user, and the password behind the first colon.
func (r *reading) login(who []rune) {
	user, pass, _ := splitAt(who, ':')
	r.url.User = encode(api.SetUser, user)
	r.url.Pass = encode(api.SetUser, pass)
}

// portColon returns the position of the colon between host and port; -1 if
// there is none. Those in an IPv6 address do not count.
func portColon(place []rune) int {
	inside := false
	for i, c := range place {
		switch {
		case c == '[':
			inside = true
		case c == ']':
			inside = false
		case c == ':' && !inside:
			return i
		}
	}
	return -1
}

// port reads the digits of a port, and keeps it if the scheme does not have it
// anyway.
func (r *reading) port(digits []rune) api.Errno {
	port := 0
	for _, d := range digits {
		if d < '0' || d > '9' {
			return api.ErrPort
		}
		port = port*10 + int(d-'0')
		if port > maxPort {
			return api.ErrPort
		}
	}
	if len(digits) > 0 && port != scheme.Port(r.url.Scheme) {
		r.url.Port = port
	}
	return api.OK
}
