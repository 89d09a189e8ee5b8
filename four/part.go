package four

import (
	"iter"
	"strings"
)

const point = "."

// parts yields the parts of s, from the last one on. There is always one: of a
// lone point it is what is before it.
func parts(s string) iter.Seq[string] {
	return func(yield func(string) bool) {
		rest := strings.TrimSuffix(s, point)
		for {
			at := strings.LastIndex(rest, point)
			if !yield(rest[at+1:]) || at < 0 {
				return
			}
			rest = rest[:at]
		}
	}
}

func lastPart(s string) string {
	for part := range parts(s) {
		return part
	}
	return ""
}
