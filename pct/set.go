package pct

import (
	"strings"

	"fascia/api"
)

// known reports whether there is such a set.
func known(set uint8) bool {
	return api.SetControl <= set && set <= api.SetUser
}

// further reports whether r, from 32 to 126, is in the set. SetUser, SetPath
// and SetSpecial go on with what SetQuery has; SetHash stands apart, as it has
// no number sign.
func further(set uint8, r rune) bool {
	in := false
	switch set {
	case api.SetUser:
		in = has(`/:;=@[\]|`, r)
		fallthrough
	case api.SetPath:
		in = in || has("?^`{}", r)
		fallthrough
	case api.SetSpecial:
		// SetPath comes by here on its way to SetQuery, without the apostrophe
		in = in || set == api.SetSpecial && r == '\''
		fallthrough
	case api.SetQuery:
		in = in || has(` "#<>`, r)
	case api.SetHash:
		in = has(" \"<>`", r)
	}
	return in
}

// has reports whether r is in the text.
func has(text string, r rune) bool {
	return strings.ContainsRune(text, r)
}
