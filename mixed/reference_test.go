package mixed

import (
	"slices"

	"fascia/api"
	"fascia/ucd"
)

// The chapter's words, followed one by one.

// names: the scripts as the chapter writes them, by their numbers.
var names = []string{
	api.Common: "Common", api.Inherited: "Inherited", api.Latin: "Latin", api.Greek: "Greek", api.Cyrillic: "Cyrillic", api.Hebrew: "Hebrew",
	api.Arabic: "Arabic", api.Devanagari: "Devanagari", api.Han: "Han", api.Hiragana: "Hiragana", api.Katakana: "Katakana", api.Hangul: "Hangul",
}

// scriptsOf returns the names of the scripts of l, each as often as it occurs.
func scriptsOf(l []rune) []string {
	var s []string
	for _, r := range l {
		if name := names[ucd.Of(r).Script]; name != "Common" && name != "Inherited" {
			s = append(s, name)
		}
	}
	return s
}

func referenceScripts(l []rune) []uint8 {
	var out []uint8
	s := scriptsOf(l)
	for script, name := range names {
		if slices.Contains(s, name) {
			out = append(out, uint8(script))
		}
	}
	return out
}

// eachIsOf reports whether each one of s is one of these.
func eachIsOf(s []string, these ...string) bool {
	for _, name := range s {
		if !slices.Contains(these, name) {
			return false
		}
	}
	return true
}

func areEastAsian(s []string) bool {
	return eachIsOf(s, "Han", "Hiragana", "Katakana") || eachIsOf(s, "Han", "Hangul")
}

func goTogether(s []string) bool {
	for _, name := range s {
		if name != s[0] {
			return areEastAsian(s)
		}
	}
	return true
}

func allBelow128(l []rune) bool {
	for _, r := range l {
		if r < 0 || r > 127 {
			return false
		}
	}
	return true
}

func referenceLevel(l []rune) uint8 {
	s := scriptsOf(l)
	if allBelow128(l) {
		return api.OnlyASCII
	}
	if goTogether(s) {
		return api.OneScript
	}
	if areEastAsian(slices.DeleteFunc(s, func(name string) bool { return name == "Latin" })) {
		return api.FewScripts
	}
	return api.AnyScripts
}

func referenceDigits(l []rune) bool {
	for _, a := range l {
		for _, b := range l {
			p, q := ucd.Of(a), ucd.Of(b)
			if p.Cat == api.CatDigit && q.Cat == api.CatDigit && p.Digits != q.Digits {
				return false
			}
		}
	}
	return true
}

func referenceCheck(l []rune) uint8 {
	if referenceLevel(l) == api.AnyScripts {
		return api.ClauseScript
	}
	if !referenceDigits(l) {
		return api.ClauseSystem
	}
	return 0
}
