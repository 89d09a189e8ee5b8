package parse

import (
	"fascia/api"
	"fascia/host"
	"fascia/path"
)

const localhost = "localhost"

// file reads what is behind the scheme file.
func (r *reading) file(text []rune) api.Errno {
	r.base = r.fileBase()
	n := r.slashes(text)
	if n >= 2 {
		return r.server(text[2:])
	}
	r.stay()
	switch {
	case n == 1:
		r.walk(r.startAtRoot(text[1:]), text[1:])
	case path.Begins(text):
		r.walk(nil, text)
	default:
		r.follow(text)
	}
	return api.OK
}

// fileBase returns the base if it is a file, and otherwise file:///: what goes
// on from that is what is read without a base.
func (r *reading) fileBase() api.URL {
	if r.has && r.base.Scheme == file {
		return r.base
	}
	return api.URL{Scheme: file, Host: api.Host{Kind: api.HostEmpty}, Port: noPort, Path: []string{""}}
}

// startAtRoot returns the path from which the walk goes through a text behind
// one slash: the drive of the base, if the text has none.
func (r *reading) startAtRoot(text []rune) []string {
	if path.Begins(text) {
		return nil
	}
	// A single segment is left when it is shortened exactly if it is such a drive.
	first := r.base.Path[:min(1, len(r.base.Path))]
	return path.Shorten(file, first)
}

// server reads the host of a file, and its path.
func (r *reading) server(text []rune) api.Errno {
	name, behind, _ := r.splitAtSlash(text)
	if path.Drive(name) {
		name, behind = nil, text
	}
	h, e := fileHost(name)
	if e != api.OK {
		return e
	}
	r.url.Host = h
	r.walk(nil, behind)
	return api.OK
}

// fileHost returns the host that a file is on; none has a name for this one.
func fileHost(name []rune) (api.Host, api.Errno) {
	if len(name) == 0 {
		return api.Host{Kind: api.HostEmpty}, api.OK
	}
	h, e := host.Parse(name, true)
	if h.Name == localhost {
		h = api.Host{Kind: api.HostEmpty}
	}
	return h, e
}
