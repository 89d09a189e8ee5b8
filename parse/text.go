package parse

import (
	"slices"

	"fascia/pct"
)

const lastNoise = 32

// noise reports whether r is removed at the ends.
func noise(r rune) bool {
	return r <= lastNoise
}

// removed reports whether r is removed wherever it is.
func removed(r rune) bool {
	return r == '\t' || r == '\n' || r == '\r'
}

// split returns what is before a position of l, what is behind it, and true;
// all of l, nothing and false if the position is negative.
func split(l []rune, at int) (before, behind []rune, found bool) {
	if at < 0 {
		return l, nil, false
	}
	return l[:at], l[at+1:], true
}

// splitAt splits l at the first r.
func splitAt(l []rune, r rune) (before, behind []rune, found bool) {
	return split(l, slices.Index(l, r))
}

// last returns the position of the last r in l; -1 if there is none.
func last(l []rune, r rune) int {
	for i, c := range slices.Backward(l) {
		if c == r {
			return i
		}
	}
	return -1
}

// encode encodes l with a set that there is, so nothing can be wrong.
func encode(set uint8, l []rune) string {
	s, _ := pct.Encode(set, l)
	return s
}
