package remap

import (
	"slices"
	"strconv"
	"strings"

	"fascia/api"
	"fascia/ucd"
)

// The chapter's words, followed one by one.

// answer is what One returns.
type answer struct {
	l   []rune
	how uint8
}

// reference: what each code point is mapped to, which are ignored, and which are in the table of ucd.
type reference struct {
	to     map[rune][]rune
	ignore map[rune]bool
	table  map[rune]uint8 // their categories
}

func newReference() reference {
	ref := reference{map[rune][]rune{}, map[rune]bool{}, map[rune]uint8{}}
	for _, line := range strings.Split(strings.TrimSpace(document), "\n") {
		f := strings.Fields(line)
		first, last, to := hex(f[0]), hex(f[1]), hex(f[2])
		for r := first; r <= last; r++ {
			ref.to[r] = []rune{to + r - first}
		}
	}
	ref.to[0x2026] = []rune{0x2E, 0x2E, 0x2E}
	for _, r := range []rune{0xAD, 0x200B, 0xFE0E, 0xFE0F, 0xFEFF} {
		ref.ignore[r] = true
	}
	for _, w := range ucd.Table() {
		for r := w.From; r <= w.To; r++ {
			ref.table[r] = w.Cat
		}
	}
	return ref
}

func hex(text string) rune {
	n, err := strconv.ParseInt(text, 16, 32)
	if err != nil {
		panic(err)
	}
	return rune(n)
}

// excepted reports whether r is one of those of the table that the chapter excepts.
func (ref reference) excepted(r rune) bool {
	if r >= 0x80 && ref.table[r] == api.CatControl {
		return true
	}
	return slices.Contains([]rune{
		0xFFFD, 0x61C, 0x200E, 0x200F, 0x2028, 0x2029,
		0x202A, 0x202B, 0x202C, 0x202D, 0x202E,
		0x2066, 0x2067, 0x2068, 0x2069,
	}, r)
}

func (ref reference) valid(r rune) bool {
	if 0 <= r && r <= 0x7F || slices.Contains([]rune{0xDF, 0x3C2, 0x200C, 0x200D}, r) {
		return true
	}
	_, ok := ref.table[r]
	return ok && !ref.excepted(r)
}

func (ref reference) one(r rune) answer {
	if l, ok := ref.to[r]; ok {
		return answer{l, api.MapTo}
	}
	if ref.ignore[r] {
		return answer{nil, api.MapIgnore}
	}
	if ref.valid(r) {
		return answer{[]rune{r}, api.MapValid}
	}
	return answer{nil, api.MapBad}
}

func (ref reference) whole(l []rune) ([]rune, bool) {
	var out []rune
	good := true
	for _, r := range l {
		a := ref.one(r)
		if a.how == api.MapBad {
			good = false
			a.l = []rune{r}
		}
		out = append(out, a.l...)
	}
	return out, good
}
