package rule

import (
	"slices"

	"fascia/api"
	"fascia/ucd"
)

// The chapter's words, followed one by one.

// names: the bidi classes as the chapter writes them, by their numbers.
var names = map[uint8]string{
	api.BidiL: "L", api.BidiR: "R", api.BidiAL: "AL", api.BidiEN: "EN", api.BidiES: "ES", api.BidiET: "ET",
	api.BidiAN: "AN", api.BidiCS: "CS", api.BidiNSM: "NSM", api.BidiBN: "BN", api.BidiB: "B", api.BidiS: "S",
	api.BidiWS: "WS", api.BidiON: "ON", api.BidiLRE: "LRE", api.BidiRLE: "RLE", api.BidiPDF: "PDF",
	api.BidiLRO: "LRO", api.BidiRLO: "RLO", api.BidiLRI: "LRI", api.BidiRLI: "RLI", api.BidiFSI: "FSI", api.BidiPDI: "PDI",
}

func classes(l []rune) []string {
	out := []string{}
	for _, r := range l {
		out = append(out, names[ucd.Of(r).Bidi])
	}
	return out
}

// allOf reports whether each class of c is one of these.
func allOf(c []string, these ...string) bool {
	for _, name := range c {
		if !slices.Contains(these, name) {
			return false
		}
	}
	return true
}

// lastOf reports whether the last class of c that is not NSM is one of these.
func lastOf(c []string, these ...string) bool {
	last := ""
	for _, name := range c {
		if name != "NSM" {
			last = name
		}
	}
	return slices.Contains(these, last)
}

func referenceBidi(l []rune) bool {
	c := classes(l)
	return slices.Contains(c, "R") || slices.Contains(c, "AL") || slices.Contains(c, "AN")
}

func reference(l []rune) uint8 {
	c := classes(l)
	switch {
	case len(c) == 0:
		return api.ClauseFirst
	case c[0] == "R" || c[0] == "AL":
		return fromRight(c)
	case c[0] == "L":
		return fromLeft(c)
	}
	return api.ClauseFirst
}

func fromRight(c []string) uint8 {
	if !allOf(c, "R", "AL", "AN", "EN", "ES", "CS", "ET", "ON", "BN", "NSM") {
		return api.ClauseInside
	}
	if !lastOf(c, "R", "AL", "EN", "AN") {
		return api.ClauseLast
	}
	if slices.Contains(c, "EN") && slices.Contains(c, "AN") {
		return api.ClauseDigits
	}
	return 0
}

func fromLeft(c []string) uint8 {
	if !allOf(c, "L", "EN", "ES", "CS", "ET", "ON", "BN", "NSM") {
		return api.ClauseInside
	}
	if !lastOf(c, "L", "EN") {
		return api.ClauseLast
	}
	return 0
}
