package context

import (
	"slices"

	"fascia/api"
	"fascia/ucd"
)

const (
	virama     = 9 // the combining class of what a joiner may stand behind
	digits     = 10
	arabicZero = 0x660
	eastZero   = 0x6F0
)

// condition is what a code point asks for where it stands in a label.
type condition struct {
	clause uint8 // it is violated where the condition does not hold
	whole  bool  // it asks for the label alone: where it holds once, it always does
	holds  func(l []rune, i int) bool
}

// conditions returns the condition of each code point that has one, those of
// digits by their zero.
func conditions() map[rune]condition {
	return map[rune]condition{
		0xB7:       {api.ClauseContext, false, betweenLs},
		0x375:      {api.ClauseContext, false, beforeGreek},
		0x5F3:      {api.ClauseContext, false, behindHebrew},
		0x5F4:      {api.ClauseContext, false, behindHebrew},
		0x200C:     {api.ClauseJoin, false, partsJoined},
		0x200D:     {api.ClauseJoin, false, behindVirama},
		0x30FB:     {api.ClauseContext, true, withJapanese},
		arabicZero: {api.ClauseContext, true, withoutEast},
		eastZero:   {api.ClauseContext, true, withoutArabic},
	}
}

// key returns what the condition of r is found by.
func key(r rune) rune {
	switch {
	case arabic(r):
		return arabicZero
	case east(r):
		return eastZero
	}
	return r
}

func betweenLs(l []rune, i int) bool {
	return i > 0 && l[i-1] == 'l' && i+1 < len(l) && l[i+1] == 'l'
}

func beforeGreek(l []rune, i int) bool {
	return i+1 < len(l) && ucd.Of(l[i+1]).Script == api.Greek
}

func behindHebrew(l []rune, i int) bool {
	return i > 0 && ucd.Of(l[i-1]).Script == api.Hebrew
}

func behindVirama(l []rune, i int) bool {
	return i > 0 && ucd.Of(l[i-1]).CCC == virama
}

// partsJoined reports whether a non-joiner at i parts what would join without it.
func partsJoined(l []rune, i int) bool {
	return behindVirama(l, i) || joinsOn(joining(l, i, -1)) && joinsBack(joining(l, i, 1))
}

// joining returns the joining type of the next code point of l that is not
// clear, going on from i by step.
func joining(l []rune, i, step int) uint8 {
	for i += step; i >= 0 && i < len(l); i += step {
		if join := ucd.Of(l[i]).Join; join != api.JoinClear {
			return join
		}
	}
	return api.JoinNone
}

// joinsOn reports whether what has this joining type joins what is behind it.
func joinsOn(join uint8) bool {
	return join == api.JoinDual || join == api.JoinLeft
}

// joinsBack reports whether what has this joining type joins what is before it.
func joinsBack(join uint8) bool {
	return join == api.JoinDual || join == api.JoinRight
}

func withJapanese(l []rune, _ int) bool {
	return slices.ContainsFunc(l, japanese)
}

func withoutArabic(l []rune, _ int) bool {
	return !slices.ContainsFunc(l, arabic)
}

func withoutEast(l []rune, _ int) bool {
	return !slices.ContainsFunc(l, east)
}

func japanese(r rune) bool {
	switch ucd.Of(r).Script {
	case api.Hiragana, api.Katakana, api.Han:
		return true
	}
	return false
}

func arabic(r rune) bool {
	return r >= arabicZero && r < arabicZero+digits
}

func east(r rune) bool {
	return r >= eastZero && r < eastZero+digits
}
