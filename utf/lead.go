package utf

// lead is what a first byte asks for. The zero lead is that of a byte that no
// encoding begins with.
type lead struct {
	size      int  // of the whole encoding
	bits      byte // the highest ones of the scalar
	low, high byte // the limits of the second byte
}

// ask returns what the first byte c asks for. C0, C1 and all above F4 begin
// nothing: what they would say is either said in fewer bytes or no scalar.
func ask(c byte) lead {
	switch {
	case c <= 0x7F:
		return lead{size: 1, bits: c}
	case c < 0xC2 || c > 0xF4:
		return lead{}
	case c <= 0xDF:
		return lead{size: 2, bits: c & 0x1F, low: 0x80, high: 0xBF}
	case c <= 0xEF:
		return narrow(c, lead{size: 3, bits: c & 0x0F, low: 0x80, high: 0xBF})
	}
	return narrow(c, lead{size: 4, bits: c & 0x07, low: 0x80, high: 0xBF})
}

// narrow sets the limits of the second byte where, behind c, they are closer:
// with others the bytes would say what has a shorter encoding, or no scalar.
func narrow(c byte, l lead) lead {
	switch c {
	case 0xE0:
		l.low = 0xA0
	case 0xED:
		l.high = 0x9F
	case 0xF0:
		l.low = 0x90
	case 0xF4:
		l.high = 0x8F
	}
	return l
}
