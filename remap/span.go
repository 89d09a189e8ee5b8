package remap

// span is the code points from first to last.
type span struct{ first, last rune }

func (s span) has(r rune) bool {
	return s.first <= r && r <= s.last
}

// shift is a span whose first code point is mapped to another one, and the
// others to those that follow it.
type shift struct {
	from span
	to   rune
}

func (s shift) has(r rune) bool {
	return s.from.has(r)
}

// move returns what r, one of the span, is mapped to.
func (s shift) move(r rune) rune {
	return r - s.from.first + s.to
}

// which returns the first of ranges that has r, and whether there is one.
func which[T any](ranges []T, has func(T, rune) bool, r rune) (T, bool) {
	for _, one := range ranges {
		if has(one, r) {
			return one, true
		}
	}
	var none T
	return none, false
}

// shifts returns what is mapped to one code point.
func shifts() []shift {
	return []shift{
		{span{0x0041, 0x005A}, 0x0061},
		{span{0x00A0, 0x00A0}, 0x0020},
		{span{0x00C0, 0x00D6}, 0x00E0},
		{span{0x00D8, 0x00DE}, 0x00F8},
		{span{0x0152, 0x0152}, 0x0153},
		{span{0x01D7, 0x01D7}, 0x01D8},
		{span{0x0386, 0x0386}, 0x03AC},
		{span{0x0388, 0x038A}, 0x03AD},
		{span{0x0391, 0x03A1}, 0x03B1},
		{span{0x03A3, 0x03A9}, 0x03C3},
		{span{0x0401, 0x0401}, 0x0451},
		{span{0x0406, 0x0406}, 0x0456},
		{span{0x0410, 0x042F}, 0x0430},
		{span{0x2329, 0x232A}, 0x3008},
		{span{0x3002, 0x3002}, 0x002E},
		{span{0xFF08, 0xFF09}, 0x0028},
		{span{0xFF0E, 0xFF0F}, 0x002E},
		{span{0xFF10, 0xFF19}, 0x0030},
		{span{0xFF1A, 0xFF1A}, 0x003A},
		{span{0xFF21, 0xFF3A}, 0x0061},
		{span{0xFF41, 0xFF5A}, 0x0061},
	}
}

// ignored returns what is mapped to nothing.
func ignored() []span {
	return []span{
		{0x00AD, 0x00AD},
		{0x200B, 0x200B},
		{0xFE0E, 0xFE0F},
		{0xFEFF, 0xFEFF},
	}
}

// barred returns what is bad though the table of ucd has it: controls that are
// not ASCII, what turns the direction or ends a line, and the mark of bad bytes.
func barred() []span {
	return []span{
		{0x0080, 0x009F},
		{0x061C, 0x061C},
		{0x200E, 0x200F},
		{0x2028, 0x2029},
		{0x202A, 0x202E},
		{0x2066, 0x2069},
		{0xFFFD, 0xFFFD},
	}
}
