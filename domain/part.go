package domain

import (
	"iter"
	"slices"
	"strings"

	"fascia/api"
	"fascia/context"
	"fascia/label"
	"fascia/puny"
	"fascia/rule"
)

// prefix is what A-labels begin with.
const prefix = "xn--"

// part is a label of a domain: its ASCII, and the code points that this stands for.
type part struct {
	ascii string
	runes []rune
}

// labels yields the parts of l between dots, one by one.
func labels(l []rune) iter.Seq[[]rune] {
	return func(yield func([]rune) bool) {
		rest := l
		for {
			at := slices.Index(rest, dot)
			if at < 0 {
				yield(rest)
				return
			}
			if !yield(rest[:at]) {
				return
			}
			rest = rest[at+1:]
		}
	}
}

// read returns the labels of l, which has been mapped and normalized, or the
// error of the first one that has one.
func read(l []rune) ([]part, api.Errno) {
	var out []part
	for one := range labels(l) {
		p, e := readOne(one)
		if e != api.OK {
			return nil, e
		}
		out = append(out, p)
	}
	return out, api.OK
}

func readOne(l []rune) (part, api.Errno) {
	if aLabel(l) {
		runes, e := standsFor(l)
		if e != api.OK {
			return part{}, e
		}
		return part{string(l), runes}, api.OK
	}
	if len(l) > 0 && !right(l) {
		return part{}, api.ErrLabel
	}
	return part{ascii(l), l}, api.OK
}

// aLabel reports whether l is of ASCII, and begins as A-labels do.
func aLabel(l []rune) bool {
	return !slices.ContainsFunc(l, beyondASCII) && strings.HasPrefix(string(l), prefix)
}

// standsFor returns what the A-label l stands for.
func standsFor(l []rune) ([]rune, api.Errno) {
	out, e := puny.Decode(string(l[len(prefix):]))
	if e != api.OK || !slices.ContainsFunc(out, beyondASCII) {
		return nil, api.ErrPuny
	}
	if !right(out) {
		return nil, api.ErrLabel
	}
	return out, api.OK
}

func right(l []rune) bool {
	return label.Check(l, false) == 0 && context.Check(l) == 0
}

// ascii returns l, which is right or empty, as ASCII. It has no code point that
// Encode would not take, nor too many: mapping makes more of dots alone.
func ascii(l []rune) string {
	if !slices.ContainsFunc(l, beyondASCII) {
		return string(l)
	}
	text, _ := puny.Encode(l)
	return prefix + text
}

// unruly reports whether a label is bidi, so that all of them are under the
// bidi rule, and one that is not empty violates it.
func unruly(parts []part) bool {
	return slices.ContainsFunc(parts, part.bidi) && slices.ContainsFunc(parts, part.violates)
}

func (p part) bidi() bool {
	return rule.Bidi(p.runes)
}

func (p part) violates() bool {
	return len(p.runes) > 0 && rule.Check(p.runes) != 0
}

func join(parts []part) string {
	out := make([]string, len(parts))
	for i, p := range parts {
		out[i] = p.ascii
	}
	return strings.Join(out, string(dot))
}
