package scheme

import (
	"regexp"
	"slices"
	"strings"
)

// The chapter's words, followed one by one.

const (
	small   = "abcdefghijklmnopqrstuvwxyz"
	capital = "ABCDEFGHIJKLMNOPQRSTUVWXYZ"
	others  = "0123456789+-."
)

var isScheme = regexp.MustCompile(`\A[a-z][a-z0-9+.\-]*\z`)

func referenceRight(s string) bool {
	return isScheme.MatchString(s)
}

func referencePort(s string) (int, bool) {
	switch s {
	case "ftp":
		return 21, true
	case "http", "ws":
		return 80, true
	case "https", "wss":
		return 443, true
	case "file":
		return -1, true
	}
	return -1, false
}

// referenceCut goes on from one code point to the next, and ends at the first one that may not be.
func referenceCut(l []rune) (string, []rune, bool) {
	s := ""
	for i, r := range l {
		if r == ':' {
			if s == "" {
				break
			}
			return s, l[i+1:], true
		}
		if at := slices.Index([]rune(capital), r); at >= 0 {
			r = rune(small[at])
		}
		may := small
		if i > 0 {
			may += others
		}
		if !strings.ContainsRune(may, r) {
			break
		}
		s += string(r)
	}
	return "", l, false
}
