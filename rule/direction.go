package rule

import (
	"slices"

	"fascia/api"
	"fascia/ucd"
)

// set is a set of bidi classes: each is the bit of its number.
type set uint32

const (
	left     set = 1 << api.BidiL
	right    set = 1<<api.BidiR | 1<<api.BidiAL
	european set = 1 << api.BidiEN
	arabic   set = 1 << api.BidiAN
	marks    set = 1 << api.BidiNSM

	// inner is what both directions may have inside, but not at the end.
	inner set = 1<<api.BidiES | 1<<api.BidiCS | 1<<api.BidiET | 1<<api.BidiON | 1<<api.BidiBN
)

// has reports whether the class of r is in the set.
func (s set) has(r rune) bool {
	return s>>ucd.Of(r).Bidi&1 != 0
}

// direction is what a label may have: it is one that begins with first.
type direction struct{ first, inside, last set }

func directions() []direction {
	return []direction{
		{right, right | arabic | european | inner | marks, right | european | arabic},
		{left, left | european | inner | marks, left | european},
	}
}

// violated returns the first clause that l, a label of this direction, violates.
// Digits of both kinds are asked for in any one: where Arabic ones may not be
// inside, none are left by then.
func (d direction) violated(l []rune) uint8 {
	switch {
	case !all(l, d.inside.has):
		return api.ClauseInside
	case !ends(l, d.last.has):
		return api.ClauseLast
	case slices.ContainsFunc(l, european.has) && slices.ContainsFunc(l, arabic.has):
		return api.ClauseDigits
	}
	return 0
}

func all(l []rune, has func(rune) bool) bool {
	return !slices.ContainsFunc(l, func(r rune) bool { return !has(r) })
}

func begins(l []rune, has func(rune) bool) bool {
	return len(l) > 0 && has(l[0])
}

// ends asks for the last code point, marks at the end left out.
func ends(l []rune, has func(rune) bool) bool {
	for _, r := range slices.Backward(l) {
		if !marks.has(r) {
			return has(r)
		}
	}
	return false
}
