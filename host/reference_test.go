package host

import (
	"slices"

	"fascia/api"
	"fascia/domain"
	"fascia/four"
	"fascia/pct"
	"fascia/six"
	"fascia/utf"
)

// The chapter's words, followed one by one.

// inNoHost: 0, 9, 10, 13, the space, and # / : < > ? @ [ \ ] ^ and the vertical bar.
var inNoHost = []rune{0, 9, 10, 13, 0x20, 0x23, 0x2F, 0x3A, 0x3C, 0x3E, 0x3F, 0x40, 0x5B, 0x5C, 0x5D, 0x5E, 124}

// inNoDomain: these, and all from 0 to 31, %, and 127.
var inNoDomain = append([]rune{
	0, 1, 2, 3, 4, 5, 6, 7, 8, 9, 10, 11, 12, 13, 14, 15,
	16, 17, 18, 19, 20, 21, 22, 23, 24, 25, 26, 27, 28, 29, 30, 31,
	0x25, 127,
}, inNoHost...)

func referenceForbidden(r rune, domain bool) bool {
	return slices.Contains(inNoHost, r) || domain && slices.Contains(inNoDomain, r)
}

func referenceParse(l []rune, special bool) (api.Host, api.Errno) {
	if len(l) > 0 && l[0] == 0x5B {
		return referenceSix(l)
	}
	if !special {
		return referenceOpaque(l)
	}
	return referenceDomain(l)
}

func referenceSix(l []rune) (api.Host, api.Errno) {
	if l[len(l)-1] != 0x5D {
		return api.Host{}, api.ErrSix
	}
	between := ""
	for _, r := range l[1 : len(l)-1] {
		between += string(r)
	}
	x, e := six.Parse(between)
	if e != api.OK {
		return api.Host{}, api.ErrSix
	}
	var h api.Host
	h.Kind, h.Six = 4, x
	return h, api.OK
}

func referenceOpaque(l []rune) (api.Host, api.Errno) {
	var h api.Host
	if len(l) == 0 {
		h.Kind = 1
		return h, api.OK
	}
	for _, r := range l {
		if slices.Contains(inNoHost, r) {
			return api.Host{}, api.ErrHost
		}
	}
	name, e := pct.Encode(1, l)
	if e != api.OK {
		panic("there is no such set")
	}
	h.Kind, h.Name = 5, name
	return h, api.OK
}

func referenceDomain(l []rune) (api.Host, api.Errno) {
	encoded := utf.Encode(l)
	bytes := pct.Decode(string(encoded))
	decoded := utf.Decode(bytes)
	name, e := domain.ToASCII(decoded)
	if e != api.OK {
		return api.Host{}, api.ErrHost
	}
	if name == "" {
		return api.Host{}, api.ErrHost
	}
	for _, r := range name {
		if slices.Contains(inNoDomain, r) {
			return api.Host{}, api.ErrHost
		}
	}
	var h api.Host
	if !four.Ends(name) {
		h.Kind, h.Name = 2, name
		return h, api.OK
	}
	x, e := four.Parse(name)
	if e != api.OK {
		return api.Host{}, api.ErrFour
	}
	h.Kind, h.Four = 3, x
	return h, api.OK
}

func referenceShow(h api.Host) string {
	switch h.Kind {
	case 2, 5:
		return h.Name
	case 3:
		return four.Show(h.Four)
	case 4:
		return "[" + six.Show(h.Six) + "]"
	}
	return ""
}

// othersAreZero tells of the fields of h that are not those of its kind.
func othersAreZero(h api.Host) bool {
	if h.Kind != 2 && h.Kind != 5 && h.Name != "" {
		return false
	}
	if h.Kind != 3 && h.Four != 0 {
		return false
	}
	return h.Kind == 4 || h.Six == [8]uint16{}
}

func referenceRight(h api.Host, special bool) bool {
	if !othersAreZero(h) {
		return false
	}
	if h.Kind == 0 || h.Kind == 1 {
		return !special
	}
	again, e := referenceParse(utf.Decode([]byte(referenceShow(h))), special)
	return e == api.OK && again == h
}
