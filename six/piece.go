package six

import (
	"strconv"
	"strings"
)

const (
	colon = ":"
	point = "."

	maxPieces  = 8
	maxDigits  = 4
	maxNumbers = 4

	decimal     = 10
	hexadecimal = 16
	byteBits    = 8
	pieceBits   = 16
)

// read returns the pieces that s is the text of, none if it is empty; and false
// if it is not the text of up to maxPieces, behind which nothing is read. The last
// two may be an embedded IPv4 address, if one is allowed.
func read(s string, embedded bool) ([]uint16, bool) {
	var l []uint16
	for more := s != ""; more; {
		var text string
		text, s, more = strings.Cut(s, colon)
		got := pieces(text, embedded && !more)
		if len(got) == 0 || len(l)+len(got) > maxPieces {
			return nil, false
		}
		l = append(l, got...)
	}
	return l, true
}

// pieces returns the piece, or the two of an embedded IPv4 address, if one is
// allowed, that s is the text of; nothing if it is none of these.
func pieces(s string, embedded bool) []uint16 {
	if embedded && strings.Contains(s, point) {
		return four(s)
	}
	if len(s) > maxDigits {
		return nil
	}
	n, err := strconv.ParseUint(s, hexadecimal, pieceBits)
	if err != nil {
		return nil
	}
	return []uint16{uint16(n)}
}

// four returns the two pieces that s stands for as an embedded IPv4 address;
// nothing if it is none.
func four(s string) []uint16 {
	// Points too many stay in the last part, which is no number then.
	parts := strings.SplitN(s, point, maxNumbers)
	if len(parts) != maxNumbers {
		return nil
	}
	var numbers [maxNumbers]uint16
	for i, part := range parts {
		n, err := strconv.ParseUint(part, decimal, byteBits)
		if err != nil || len(part) > 1 && part[0] == '0' {
			return nil
		}
		numbers[i] = uint16(n)
	}
	return []uint16{numbers[0]<<byteBits | numbers[1], numbers[2]<<byteBits | numbers[3]}
}

// join returns these pieces as text.
func join(l []uint16) string {
	shown := make([]string, len(l))
	for i, n := range l {
		shown[i] = strconv.FormatUint(uint64(n), hexadecimal)
	}
	return strings.Join(shown, colon)
}
