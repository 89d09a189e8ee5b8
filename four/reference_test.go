package four

import (
	"math/big"
	"slices"
	"strings"

	"fascia/api"
)

// The chapter's words, followed one by one.

var twoTo32 = big.NewInt(1 << 32)

// digitsIn returns what is left of s when its beginning has told the base.
func digitsIn(s string) (string, int) {
	if strings.HasPrefix(s, "0x") || strings.HasPrefix(s, "0X") {
		return s[2:], 16
	}
	if len(s) >= 2 && s[0] == '0' {
		return s[1:], 8
	}
	return s, 10
}

var digitsOf = map[int]string{8: "01234567", 10: "0123456789", 16: "0123456789abcdefABCDEF"}

func onlyOf(s, digits string) bool {
	for _, c := range []byte(s) {
		if strings.IndexByte(digits, c) < 0 {
			return false
		}
	}
	return true
}

func referenceNumber(s string) (*big.Int, bool) {
	digits, base := digitsIn(s)
	if s == "" || !onlyOf(digits, digitsOf[base]) {
		return new(big.Int), false
	}
	n := new(big.Int)
	if digits != "" {
		n.SetString(digits, base)
	}
	if n.Cmp(twoTo32) >= 0 {
		n.Set(twoTo32)
	}
	return n, true
}

func referenceParts(s string) []string {
	l := strings.Split(s, ".")
	if len(l) > 1 && l[len(l)-1] == "" {
		l = l[:len(l)-1]
	}
	return l
}

func referenceEnds(s string) bool {
	l := referenceParts(s)
	last := l[len(l)-1]
	_, number := referenceNumber(last)
	return last != "" && onlyOf(last, digitsOf[10]) || number
}

// referenceParse puts the bytes of the address one behind the other.
func referenceParse(s string) (uint32, api.Errno) {
	l := referenceParts(s)
	if len(l) > 4 {
		return 0, api.ErrFour
	}
	var address []byte
	for i, one := range l {
		n, good := referenceNumber(one)
		size := 1
		if i == len(l)-1 {
			size = 5 - len(l)
		}
		if !good || n.BitLen() > 8*size {
			return 0, api.ErrFour
		}
		address = slices.Concat(address, n.FillBytes(make([]byte, size)))
	}
	return uint32(new(big.Int).SetBytes(address).Uint64()), api.OK
}
