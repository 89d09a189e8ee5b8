// Package utf is layer 1: it decodes and encodes UTF-8.
package utf

import (
	"iter"

	"fascia/api"
)

// Scalar reports whether r is a Unicode scalar value.
func Scalar(r rune) bool {
	return r >= 0 && r <= api.MaxRune && (r < 0xD800 || r > 0xDFFF)
}

// Codes returns the codes that b is divided into, each with the range of its bytes.
func Codes(b []byte) []api.Code {
	var out []api.Code
	for c := range divide(b) {
		out = append(out, c)
	}
	return out
}

// Decode returns the code points of the codes that b is divided into.
func Decode(b []byte) []rune {
	var out []rune
	for c := range divide(b) {
		out = append(out, c.R)
	}
	return out
}

// Encode returns the encodings of all of l, that of U+FFFD for what is no scalar.
func Encode(l []rune) []byte {
	out := make([]byte, 0, len(l))
	for _, r := range l {
		out = add(out, r)
	}
	return out
}

// Valid reports whether b consists of encodings of scalars.
func Valid(b []byte) bool {
	for _, whole := range divide(b) {
		if !whole {
			return false
		}
	}
	return true
}

// divide yields the codes of b, each with whether its bytes are an encoding:
// the code point alone does not tell, as U+FFFD may itself be encoded.
func divide(b []byte) iter.Seq2[api.Code, bool] {
	return func(yield func(api.Code, bool) bool) {
		for from := 0; from < len(b); {
			r, size, whole := first(b[from:])
			if !yield(api.Code{R: r, From: from, To: from + size}, whole) {
				return
			}
			from += size
		}
	}
}

// first reads the first code of b, which is not empty: its code point, how
// many bytes it has, and whether they are an encoding.
func first(b []byte) (rune, int, bool) {
	want := ask(b[0])
	if want == (lead{}) {
		return api.Bad, 1, false
	}
	r, low, high := rune(want.bits), want.low, want.high
	for i := 1; i < want.size; i++ {
		if i == len(b) || b[i] < low || b[i] > high {
			return api.Bad, i, false
		}
		r = r<<6 | rune(b[i]&0x3F)
		low, high = 0x80, 0xBF
	}
	return r, want.size, true
}

// add appends the encoding of r to out.
func add(out []byte, r rune) []byte {
	if !Scalar(r) {
		r = api.Bad
	}
	switch {
	case r <= 0x7F:
		return append(out, byte(r))
	case r <= 0x7FF:
		return append(out, 0xC0|byte(r>>6), tail(r))
	case r <= 0xFFFF:
		return append(out, 0xE0|byte(r>>12), tail(r>>6), tail(r))
	}
	return append(out, 0xF0|byte(r>>18), tail(r>>12), tail(r>>6), tail(r))
}

// tail is a byte behind the first one, with the lowest six bits of r.
func tail(r rune) byte {
	return 0x80 | byte(r&0x3F)
}
