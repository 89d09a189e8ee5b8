package ucd

// brackets are pairs: the one that opens, the one that closes.
var brackets = [...][2]rune{
	{0x0028, 0x0029},
	{0x005B, 0x005D},
	{0x007B, 0x007D},
	{0x2329, 0x232A},
	{0x3008, 0x3009},
	{0x300C, 0x300D},
	{0xFF08, 0xFF09},
}

// Bracket returns the other bracket of the pair of r, whether r is the one
// that opens, and whether r is a bracket at all.
func Bracket(r rune) (rune, bool, bool) {
	for _, pair := range brackets {
		switch r {
		case pair[0]:
			return pair[1], true, true
		case pair[1]:
			return pair[0], false, true
		}
	}
	return 0, false, false
}
