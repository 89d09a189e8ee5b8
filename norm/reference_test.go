package norm

import (
	"slices"
	"strconv"
	"strings"

	"fascia/ucd"
)

// The chapter's words, followed one by one.

// reference: what the chapter's pairs and syllables are composed of, and the other way round.
type reference struct {
	parts map[rune][2]rune
	whole map[[2]rune]rune
}

func newReference() reference {
	ref := reference{map[rune][2]rune{}, map[[2]rune]rune{}}
	for _, text := range strings.FieldsFunc(document, func(c rune) bool { return c == ';' || c == '\n' }) {
		f := strings.Fields(text)
		if len(f) != 3 {
			panic(text)
		}
		ref.add(hex(f[0]), hex(f[1]), hex(f[2]))
	}
	for l := range rune(19) {
		for v := range rune(21) {
			without := 0xAC00 + (l*21+v)*28
			ref.add(without, 0x1100+l, 0x1161+v)
			for t := rune(1); t <= 27; t++ {
				ref.add(without+t, without, 0x11A7+t)
			}
		}
	}
	return ref
}

func hex(text string) rune {
	n, err := strconv.ParseInt(text, 16, 32)
	if err != nil {
		panic(err)
	}
	return rune(n)
}

func (ref reference) add(whole, first, second rune) {
	ref.parts[whole] = [2]rune{first, second}
	ref.whole[[2]rune{first, second}] = whole
}

func (ref reference) full(r rune) []rune {
	if p, ok := ref.parts[r]; ok {
		return append(ref.full(p[0]), p[1])
	}
	switch r {
	case 0x2329:
		return ref.full(0x3008)
	case 0x232A:
		return ref.full(0x3009)
	}
	return []rune{r}
}

func (ref reference) nfd(l []rune) []rune {
	var out []rune
	for _, r := range l {
		out = append(out, ref.full(r)...)
	}
	for again := true; again; {
		again = false
		for i := 1; i < len(out); i++ {
			a, b := class(out[i-1]), class(out[i])
			if a != 0 && b != 0 && a > b {
				out[i-1], out[i] = out[i], out[i-1]
				again = true
			}
		}
	}
	return out
}

func (ref reference) nfc(l []rune) []rune {
	out := ref.nfd(l)
	for i := 1; i < len(out); {
		s := i - 1
		for s >= 0 && class(out[s]) != 0 {
			s--
		}
		if s >= 0 {
			whole, ok := ref.whole[[2]rune{out[s], out[i]}]
			if ok && !between(out[s+1:i], class(out[i])) {
				out[s] = whole
				out = slices.Delete(out, i, i+1)
				continue
			}
		}
		i++
	}
	return out
}

// between reports whether one of l keeps what is behind l, of that class, from what is before it.
func between(l []rune, c uint8) bool {
	return slices.ContainsFunc(l, func(r rune) bool { return class(r) == 0 || class(r) >= c })
}

func class(r rune) uint8 {
	return ucd.Of(r).CCC
}
