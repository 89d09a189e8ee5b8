package host

import (
	"slices"
	"strings"

	"fascia/api"
	"fascia/domain"
	"fascia/four"
	"fascia/pct"
	"fascia/six"
	"fascia/utf"
)

const (
	opening = '['
	closing = ']'

	neverInHost = "\x00\t\n\r #/:<>?@[\\]^|"
	percent     = '%'
	lastControl = 31
	deletion    = 127
)

func forbiddenInHost(r rune) bool {
	return strings.ContainsRune(neverInHost, r)
}

func forbiddenInDomain(r rune) bool {
	return forbiddenInHost(r) || r >= 0 && r <= lastControl || r == percent || r == deletion
}

// bracketed returns the IPv6 address that l, which begins with a bracket, is.
func bracketed(l []rune) (api.Host, api.Errno) {
	last := len(l) - 1
	if l[last] != closing {
		return api.Host{}, api.ErrSix
	}
	x, e := six.Parse(string(utf.Encode(l[1:last])))
	if e != api.OK {
		return api.Host{}, api.ErrSix
	}
	return api.Host{Kind: api.HostSix, Six: x}, api.OK
}

// opaque returns the host that l, which is not empty, is for no special scheme.
func opaque(l []rune) (api.Host, api.Errno) {
	if slices.ContainsFunc(l, forbiddenInHost) {
		return api.Host{}, api.ErrHost
	}
	// Encode has an error only for a set that there is not.
	name, _ := pct.Encode(api.SetControl, l)
	return api.Host{Kind: api.HostOpaque, Name: name}, api.OK
}

// named returns the domain, or the IPv4 address, that l is for a special scheme.
func named(l []rune) (api.Host, api.Errno) {
	decoded := utf.Decode(pct.Decode(string(utf.Encode(l))))
	// ToASCII has an error where its result would be empty.
	name, e := domain.ToASCII(decoded)
	if e != api.OK || strings.ContainsFunc(name, forbiddenInDomain) {
		return api.Host{}, api.ErrHost
	}
	if !four.Ends(name) {
		return api.Host{Kind: api.HostDomain, Name: name}, api.OK
	}
	x, e := four.Parse(name)
	if e != api.OK {
		return api.Host{}, api.ErrFour
	}
	return api.Host{Kind: api.HostFour, Four: x}, api.OK
}
