package path

import (
	"iter"

	"fascia/api"
	"fascia/pct"
	"fascia/scheme"
)

const file = "file"

// parts yields the parts of a text between separators of the scheme s, each
// with whether it is the last one. There is always one.
func parts(s string, text []rune) iter.Seq2[[]rune, bool] {
	special := scheme.Special(s)
	return func(yield func([]rune, bool) bool) {
		from := 0
		for i, r := range text {
			if r != '/' && (r != '\\' || !special) {
				continue
			}
			if !yield(text[from:i], false) {
				return
			}
			from = i + 1
		}
		yield(text[from:], true)
	}
}

// step returns the path that l, which it may change, is after one part of a walk.
func step(scheme string, l []string, part []rune, last bool) []string {
	// the set is known, so nothing is wrong
	s, _ := pct.Encode(api.SetPath, part)
	switch {
	case Double(s):
		l = shorter(scheme, l)
	case Single(s):
	case scheme == file && len(l) == 0 && Drive(part):
		return append(l, normal(part))
	default:
		return append(l, s)
	}
	if last {
		l = append(l, "")
	}
	return l
}

// shorter returns the part of l that is left when l is shortened.
func shorter(scheme string, l []string) []string {
	if len(l) == 0 || scheme == file && len(l) == 1 && normalized(l[0]) {
		return l
	}
	return l[:len(l)-1]
}
