package norm

import (
	"cmp"
	"slices"

	"fascia/ucd"
)

// classed is a code point, and its class. It is asked for once, as both the
// order and the composition need it.
type classed struct {
	r     rune
	class uint8
}

// starter reports whether c has the class 0.
func (c classed) starter() bool {
	return c.class == 0
}

// decompose returns the full decompositions of all of l, in canonical order.
func decompose(l []rune) []classed {
	out := make([]classed, 0, len(l))
	for _, r := range l {
		for _, part := range Split(r) {
			out = append(out, classed{part, ucd.Of(part).CCC})
		}
	}
	arrange(out)
	return out
}

// arrange puts l in canonical order: no starter is moved, so each piece between
// two of them is sorted by itself, and those of one class stay as they are.
func arrange(l []classed) {
	for len(l) > 0 {
		n := slices.IndexFunc(l, classed.starter)
		if n < 0 {
			n = len(l)
		}
		slices.SortStableFunc(l[:n], func(a, b classed) int {
			return cmp.Compare(a.class, b.class)
		})
		l = l[min(n+1, len(l)):]
	}
}
