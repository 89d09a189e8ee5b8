package norm

// Hangul syllables: their number is that of the leads, times that of the
// vowels, times that of the tails, one of which is that there is none.
const (
	firstSyllable = 0xAC00
	firstLead     = 0x1100
	firstVowel    = 0x1161
	noTail        = 0x11A7 // the tails follow it
	leads         = 19
	vowels        = 21
	tails         = 28
)

// syllable returns the two that r is composed of, and whether it is a syllable.
func syllable(r rune) (parts, bool) {
	if !within(r, firstSyllable, leads*vowels*tails) {
		return parts{}, false
	}
	n := r - firstSyllable
	if tail := n % tails; tail != 0 {
		return parts{r - tail, noTail + tail}, true
	}
	return parts{firstLead + n/tails/vowels, firstVowel + n/tails%vowels}, true
}

// joinSyllable returns the syllable of the parts, and whether there is one.
func joinSyllable(p parts) (rune, bool) {
	if within(p.first, firstLead, leads) && within(p.second, firstVowel, vowels) {
		l, v := p.first-firstLead, p.second-firstVowel
		return firstSyllable + (l*vowels+v)*tails, true
	}
	if open(p.first) && within(p.second, noTail+1, tails-1) {
		return p.first + p.second - noTail, true
	}
	return 0, false
}

// open reports whether r is a syllable without a tail.
func open(r rune) bool {
	return within(r, firstSyllable, leads*vowels*tails) && (r-firstSyllable)%tails == 0
}

// within reports whether r is one of count code points from first on.
func within(r, first, count rune) bool {
	return first <= r && r < first+count
}
