package six

import (
	"fmt"
	"regexp"
	"slices"
	"strconv"
	"strings"

	"fascia/api"
)

// The chapter's words, followed one by one.

const number = `(0|[1-9]|[1-9][0-9]|1[0-9][0-9]|2[0-4][0-9]|25[0-5])`

var (
	isPiece    = regexp.MustCompile(`^[0-9A-Fa-f]{1,4}$`)
	isEmbedded = regexp.MustCompile(`^` + number + `\.` + number + `\.` + number + `\.` + number + `$`)
)

// Letters that stand for what may be between colons.
const (
	aPiece    = "p"
	aFour     = "f" // an embedded IPv4 address
	something = "?"
)

// shape returns s with letters for what is between its colons.
func shape(s string) string {
	l := strings.Split(s, ":")
	for i, text := range l {
		switch {
		case text == "":
		case isPiece.MatchString(text):
			l[i] = aPiece
		case isEmbedded.MatchString(text):
			l[i] = aFour
		default:
			l[i] = something
		}
	}
	return strings.Join(l, ":")
}

// lists returns the shapes of n pieces: of these alone, and with the last two as
// an embedded address.
func lists(n int) []string {
	out := []string{strings.Join(slices.Repeat([]string{aPiece}, n), ":")}
	if n >= 2 {
		out = append(out, strings.Join(append(slices.Repeat([]string{aPiece}, n-2), aFour), ":"))
	}
	return out
}

// shapes returns those of all texts of addresses.
func shapes() map[string]bool {
	out := map[string]bool{}
	for _, whole := range lists(8) {
		out[whole] = true
	}
	for before := range 8 {
		for behind := range 8 - before {
			for _, last := range lists(behind) {
				out[lists(before)[0]+"::"+last] = true
			}
		}
	}
	return out
}

var rightShapes = shapes()

// values returns the pieces between the colons of s, which is right.
func values(s string) []uint16 {
	var out []uint16
	for _, text := range strings.FieldsFunc(s, func(c rune) bool { return c == ':' }) {
		if m := isEmbedded.FindStringSubmatch(text); m != nil {
			out = append(out, 256*valueOf(m[1], 10)+valueOf(m[2], 10), 256*valueOf(m[3], 10)+valueOf(m[4], 10))
		} else {
			out = append(out, valueOf(text, 16))
		}
	}
	return out
}

func valueOf(digits string, base int) uint16 {
	n, err := strconv.ParseInt(digits, base, 64)
	if err != nil {
		panic(err)
	}
	return uint16(n)
}

func referenceParse(s string) ([8]uint16, api.Errno) {
	if !rightShapes[shape(s)] {
		return [8]uint16{}, api.ErrSix
	}
	l := values(s)
	before, _, _ := strings.Cut(s, "::")
	at := len(values(before))
	return [8]uint16(slices.Insert(l, at, make([]uint16, 8-len(l))...)), api.OK
}

// referenceRun looks at each position for how many zeros there are.
func referenceRun(x [8]uint16) (int, int) {
	at, length := 0, 0
	for i := range x {
		n := 0
		for i+n < len(x) && x[i+n] == 0 {
			n++
		}
		if n >= 2 && n > length {
			at, length = i, n
		}
	}
	return at, length
}

// zeros are neighbouring ones, with the colons on both sides.
var zeros = regexp.MustCompile(`(^|:)0(:0)+(:|$)`)

// referenceShow writes all pieces, and puts the colons where the longest of the
// zeros are, or the first ones that are as long.
func referenceShow(x [8]uint16) string {
	l := make([]string, len(x))
	for i, n := range x {
		l[i] = fmt.Sprintf("%x", n)
	}
	s := strings.Join(l, ":")
	count := func(found []int) int { return strings.Count(s[found[0]:found[1]], "0") }
	var best []int
	for _, found := range zeros.FindAllStringIndex(s, -1) {
		if best == nil || count(found) > count(best) {
			best = found
		}
	}
	if best == nil {
		return s
	}
	return s[:best[0]] + "::" + s[best[1]:]
}
