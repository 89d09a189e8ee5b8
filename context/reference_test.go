package context

import (
	"slices"

	"fascia/api"
	"fascia/ucd"
)

// The chapter's words, followed one by one.

// neighbours returns what stands before position i of l, and what stands behind it, the nearest first.
func neighbours(l []rune, i int) (before, behind []rune) {
	before = slices.Clone(l[:i])
	slices.Reverse(before)
	return before, l[i+1:]
}

// skipped returns l from the first one on that is not clear.
func skipped(l []rune) []rune {
	for len(l) > 0 && ucd.Of(l[0]).Join == api.JoinClear {
		l = l[1:]
	}
	return l
}

// nearest reports whether l has a first one, and that is so.
func nearest(l []rune, so func(api.Prop) bool) bool {
	return len(l) > 0 && so(ucd.Of(l[0]))
}

func someIn(l []rune, from, to rune) bool {
	for _, r := range l {
		if from <= r && r <= to {
			return true
		}
	}
	return false
}

func class9(p api.Prop) bool { return p.CCC == 9 }
func greek(p api.Prop) bool  { return p.Script == api.Greek }
func hebrew(p api.Prop) bool { return p.Script == api.Hebrew }

func dualOrLeft(p api.Prop) bool  { return p.Join == api.JoinDual || p.Join == api.JoinLeft }
func dualOrRight(p api.Prop) bool { return p.Join == api.JoinDual || p.Join == api.JoinRight }

// meets returns the clause of the row of the chapter's table that has the code point at i (0: none has it), and whether its condition holds.
func meets(l []rune, i int) (uint8, bool) {
	before, behind := neighbours(l, i)
	switch r := l[i]; {
	case r == 0x200D:
		return api.ClauseJoin, nearest(before, class9)
	case r == 0x200C:
		return api.ClauseJoin, nearest(before, class9) || nearest(skipped(before), dualOrLeft) && nearest(skipped(behind), dualOrRight)
	case r == 0xB7:
		return api.ClauseContext, slices.Equal(l[max(0, i-1):min(len(l), i+2)], []rune{0x6C, 0xB7, 0x6C})
	case r == 0x375:
		return api.ClauseContext, nearest(behind, greek)
	case r == 0x5F3 || r == 0x5F4:
		return api.ClauseContext, nearest(before, hebrew)
	case r == 0x30FB:
		return api.ClauseContext, slices.ContainsFunc(l, func(r rune) bool {
			return slices.Contains([]uint8{api.Hiragana, api.Katakana, api.Han}, ucd.Of(r).Script)
		})
	case 0x660 <= r && r <= 0x669:
		return api.ClauseContext, !someIn(l, 0x6F0, 0x6F9)
	case 0x6F0 <= r && r <= 0x6F9:
		return api.ClauseContext, !someIn(l, 0x660, 0x669)
	}
	return 0, true
}

// referenceAt is what At is to return.
func referenceAt(l []rune, i int) uint8 {
	if i < 0 || i >= len(l) {
		return 0
	}
	if clause, ok := meets(l, i); !ok {
		return clause
	}
	return 0
}

// referenceCheck is what Check is to return.
func referenceCheck(l []rune) uint8 {
	for i := range l {
		if clause := referenceAt(l, i); clause != 0 {
			return clause
		}
	}
	return 0
}
