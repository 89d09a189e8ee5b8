package domain

import (
	"slices"

	"fascia/api"
	"fascia/context"
	"fascia/label"
	"fascia/mixed"
	"fascia/norm"
	"fascia/puny"
	"fascia/remap"
	"fascia/rule"
)

// The chapter's words, followed one by one.

// divided returns the labels of a domain: one more than it has dots.
func divided(l []rune) [][]rune {
	out := [][]rune{nil}
	for _, r := range l {
		if r == 0x2E {
			out = append(out, nil)
			continue
		}
		out[len(out)-1] = append(out[len(out)-1], r)
	}
	return out
}

func allBelow128(l []rune) bool {
	for _, r := range l {
		if r >= 128 {
			return false
		}
	}
	return true
}

func isALabel(l []rune) bool {
	return allBelow128(l) && len(l) >= 4 && l[0] == 0x78 && l[1] == 0x6E && l[2] == 0x2D && l[3] == 0x2D
}

func isRight(l []rune) bool {
	if label.Check(l, false) != 0 {
		return false
	}
	for i := range l {
		if context.At(l, i) != 0 {
			return false
		}
	}
	return true
}

// meaning returns what an A-label stands for, and the error that a label of it is.
func meaning(l []rune) ([]rune, api.Errno) {
	code := ""
	for _, r := range l[4:] {
		code += string(r)
	}
	what, e := puny.Decode(code)
	if e != api.OK {
		return nil, api.ErrPuny
	}
	if allBelow128(what) {
		return nil, api.ErrPuny
	}
	if !isRight(what) {
		return nil, api.ErrLabel
	}
	return what, api.OK
}

func referenceToASCII(l []rune) (string, api.Errno) {
	if len(l) > 2000 {
		return "", api.ErrLength
	}
	var mapped []rune
	for _, r := range l {
		to, how := remap.One(r)
		if how == api.MapBad {
			return "", api.ErrMap
		}
		mapped = append(mapped, to...)
	}
	all := divided(norm.NFC(mapped))
	var stand [][]rune
	for _, one := range all {
		what := one
		if isALabel(one) {
			var e api.Errno
			if what, e = meaning(one); e != api.OK {
				return "", e
			}
		} else if len(one) > 0 && !isRight(one) {
			return "", api.ErrLabel
		}
		stand = append(stand, what)
	}
	if slices.ContainsFunc(stand, rule.Bidi) {
		for _, what := range stand {
			if len(what) > 0 && rule.Check(what) != 0 {
				return "", api.ErrDomain
			}
		}
	}
	if len(mapped) == 0 {
		return "", api.ErrDomain
	}
	out := ""
	for i, one := range all {
		if i > 0 {
			out += "."
		}
		if !allBelow128(one) {
			code, e := puny.Encode(one)
			if e != api.OK {
				return "Encode fails", e
			}
			out += "xn--" + code
			continue
		}
		for _, r := range one {
			out += string(r)
		}
	}
	return out, api.OK
}

func referenceToUnicode(s string) ([]rune, api.Errno) {
	if len(s) > 2000 {
		return nil, api.ErrLength
	}
	var l []rune
	for i := range len(s) {
		c := s[i]
		if c >= 128 || 'A' <= c && c <= 'Z' || c == '.' {
			return nil, api.ErrLabel
		}
		l = append(l, rune(c))
	}
	if !isALabel(l) {
		return l, api.OK
	}
	l, e := meaning(l)
	if e != api.OK {
		return nil, e
	}
	if rule.Bidi(l) && rule.Check(l) != 0 {
		return nil, api.ErrDomain
	}
	return l, api.OK
}

func referenceFails(l []rune) []uint8 {
	all := []uint8{label.Check(l, true)}
	for i := range l {
		all = append(all, context.At(l, i))
	}
	if rule.Bidi(l) {
		all = append(all, rule.Check(l))
	}
	if mixed.Level(l) == api.AnyScripts {
		all = append(all, api.ClauseScript)
	}
	if !mixed.Digits(l) {
		all = append(all, api.ClauseSystem)
	}
	slices.Sort(all)
	all = slices.Compact(all)
	return slices.DeleteFunc(all, func(c uint8) bool { return c == 0 })
}
