package write

import (
	"strconv"

	"fascia/api"
	"fascia/host"
)

const noPort = -1

// list is the pieces of a URL, as far as they are written.
type list []api.Piece

// add appends pieces of one part, which have these texts. An empty text is none.
func (l *list) add(part uint8, texts ...string) {
	for _, s := range texts {
		if s != "" {
			*l = append(*l, api.Piece{Part: part, Text: s})
		}
	}
}

// authority appends who asks, the host and the port.
func (l *list) authority(u api.URL) {
	if u.Host.Kind == api.HostNone {
		return
	}
	l.add(api.PartDelim, "//")
	l.somebody(u)
	l.add(api.PartHost, host.Show(u.Host))
	if u.Port != noPort {
		l.add(api.PartDelim, ":")
		l.add(api.PartPort, strconv.Itoa(u.Port))
	}
}

// somebody appends who asks, if it is told.
func (l *list) somebody(u api.URL) {
	if u.User == "" && u.Pass == "" {
		return
	}
	l.add(api.PartUser, u.User)
	if u.Pass != "" {
		l.add(api.PartDelim, ":")
		l.add(api.PartPass, u.Pass)
	}
	l.add(api.PartDelim, "@")
}

// path appends the path.
func (l *list) path(u api.URL) {
	if u.Opaque {
		l.add(api.PartPath, u.Path[:min(len(u.Path), 1)]...)
		return
	}
	if likeHost(u) {
		l.add(api.PartDelim, "/", ".")
	}
	for _, s := range u.Path {
		l.add(api.PartDelim, "/")
		l.add(api.PartPath, s)
	}
}

// likeHost reports whether the path of u would begin like a host where there is
// none.
func likeHost(u api.URL) bool {
	return u.Host.Kind == api.HostNone && len(u.Path) > 1 && u.Path[0] == ""
}

// end appends the query and the fragment.
func (l *list) end(u api.URL) {
	if u.HasQuery {
		l.add(api.PartDelim, "?")
		l.add(api.PartQuery, u.Query)
	}
	if u.HasHash {
		l.add(api.PartDelim, "#")
		l.add(api.PartHash, u.Hash)
	}
}
