package four

const (
	octal       = 8
	decimal     = 10
	hexadecimal = 16

	// greatest: greater numbers count as this, which is too great for any part.
	greatest = 1 << 32
)

// split returns the digits of s, which is not empty, and their base.
func split(s string) (string, uint64) {
	switch {
	case len(s) == 1 || s[0] != '0':
		return s, decimal
	case s[1] == 'x' || s[1] == 'X':
		return s[2:], hexadecimal
	default:
		return s[1:], octal
	}
}

// value returns the number of these digits, 0 if there are none; and false if
// one of them is no digit of the base.
func value(digits string, base uint64) (uint64, bool) {
	n := uint64(0)
	digit := digitOf(base)
	for _, c := range []byte(digits) {
		d, good := digit(c)
		if !good {
			return 0, false
		}
		n = min(n*base+d, greatest)
	}
	return n, true
}

// digitOf returns what tells the values of the digits of a base.
func digitOf(base uint64) func(c byte) (uint64, bool) {
	return func(c byte) (uint64, bool) {
		d := base
		switch {
		case c >= '0' && c <= '9':
			d = uint64(c - '0')
		case c >= 'a' && c <= 'f':
			d = uint64(c-'a') + decimal
		case c >= 'A' && c <= 'F':
			d = uint64(c-'A') + decimal
		}
		return d, d < base
	}
}
