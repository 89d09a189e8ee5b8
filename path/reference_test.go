package path

import (
	"regexp"
	"slices"
	"strings"
	"unicode/utf8"
)

// The chapter's words, followed one by one.

var (
	isSingle = regexp.MustCompile(`\A(\.|%2[eE])\z`)
	isDouble = regexp.MustCompile(`\A(\.|%2[eE])(\.|%2[eE])\z`)
)

var specialSchemes = []string{"ftp", "file", "http", "https", "ws", "wss"}

const hex = "0123456789ABCDEF"

const letters = "ABCDEFGHIJKLMNOPQRSTUVWXYZabcdefghijklmnopqrstuvwxyz"

func referenceSingle(s string) bool { return isSingle.MatchString(s) }

func referenceDouble(s string) bool { return isDouble.MatchString(s) }

func referenceDrive(l []rune) bool {
	if len(l) != 2 {
		return false
	}
	return slices.Contains([]rune(letters), l[0]) && slices.Contains([]rune{58, 124}, l[1])
}

func referenceBegins(l []rune) bool {
	if len(l) < 2 || !referenceDrive([]rune{l[0], l[1]}) {
		return false
	}
	for i, r := range l {
		if i == 2 {
			return slices.Contains([]rune{'/', 92, '?', '#'}, r)
		}
	}
	return true
}

func referenceShorten(scheme string, l []string) []string {
	var short []string
	if len(l) == 1 && scheme == "file" && referenceDrive([]rune(l[0])) && strings.HasSuffix(l[0], ":") {
		return append(short, l[0])
	}
	for i, s := range l {
		if i+1 < len(l) {
			short = append(short, s)
		}
	}
	return short
}

// referenceEncoded writes what is in the set of a path (a space, " # < > ? ^ { } and the grave accent, control characters and what is not ASCII) as codes.
func referenceEncoded(l []rune) string {
	s := ""
	for _, r := range l {
		if r >= 32 && r <= 126 && !strings.ContainsRune("\" #<>?^{}`", r) {
			s += string(r)
			continue
		}
		if !utf8.ValidRune(r) {
			r = 0xFFFD
		}
		for _, c := range []byte(string(r)) {
			s += "%" + hex[c/16:c/16+1] + hex[c%16:c%16+1]
		}
	}
	return s
}

// referenceParts puts the code points one by one at the end of the last part, and a new part at the end for a separator.
func referenceParts(scheme string, text []rune) [][]rune {
	separators := []rune("/")
	if slices.Contains(specialSchemes, scheme) {
		separators = append(separators, '\\')
	}
	parts := [][]rune{nil}
	for _, r := range text {
		if slices.Contains(separators, r) {
			parts = append(parts, nil)
			continue
		}
		last := len(parts) - 1
		parts[last] = append(parts[last], r)
	}
	return parts
}

func referenceWalk(scheme string, l []string, text []rune) []string {
	path := append([]string{}, l...)
	parts := referenceParts(scheme, text)
	for i, part := range parts {
		s := referenceEncoded(part)
		single, double := referenceSingle(s), referenceDouble(s)
		if double {
			path = referenceShorten(scheme, path)
		}
		if single || double {
			if i == len(parts)-1 {
				path = append(path, "")
			}
			continue
		}
		if scheme == "file" && len(path) == 0 && referenceDrive(part) {
			s = string(part[0]) + ":"
		}
		path = append(path, s)
	}
	return path
}
