package ucd

import "fascia/api"

func category(name string) uint8 {
	switch name {
	case "lower":
		return api.CatLower
	case "upper":
		return api.CatUpper
	case "letter":
		return api.CatLetter
	case "mark":
		return api.CatMark
	case "digit":
		return api.CatDigit
	case "punct":
		return api.CatPunct
	case "symbol":
		return api.CatSymbol
	case "space":
		return api.CatSpace
	case "control":
		return api.CatControl
	case "format":
		return api.CatFormat
	}
	return api.CatNone
}

func bidi(name string) uint8 {
	switch name {
	case "R":
		return api.BidiR
	case "AL":
		return api.BidiAL
	case "EN":
		return api.BidiEN
	case "ES":
		return api.BidiES
	case "ET":
		return api.BidiET
	case "AN":
		return api.BidiAN
	case "CS":
		return api.BidiCS
	case "NSM":
		return api.BidiNSM
	case "BN":
		return api.BidiBN
	case "B":
		return api.BidiB
	case "S":
		return api.BidiS
	case "WS":
		return api.BidiWS
	case "ON":
		return api.BidiON
	}
	return explicit(name)
}

// explicit has the bidi classes of embeddings, overrides and isolates.
func explicit(name string) uint8 {
	switch name {
	case "LRE":
		return api.BidiLRE
	case "RLE":
		return api.BidiRLE
	case "PDF":
		return api.BidiPDF
	case "LRO":
		return api.BidiLRO
	case "RLO":
		return api.BidiRLO
	case "LRI":
		return api.BidiLRI
	case "RLI":
		return api.BidiRLI
	case "FSI":
		return api.BidiFSI
	case "PDI":
		return api.BidiPDI
	}
	return api.BidiL
}

// join lacks JoinLeft: no row has it.
func join(name string) uint8 {
	switch name {
	case "cause":
		return api.JoinCause
	case "clear":
		return api.JoinClear
	case "dual":
		return api.JoinDual
	case "right":
		return api.JoinRight
	}
	return api.JoinNone
}

func script(name string) uint8 {
	switch name {
	case "Inherited":
		return api.Inherited
	case "Latin":
		return api.Latin
	case "Greek":
		return api.Greek
	case "Cyrillic":
		return api.Cyrillic
	case "Hebrew":
		return api.Hebrew
	case "Arabic":
		return api.Arabic
	case "Devanagari":
		return api.Devanagari
	case "Han":
		return api.Han
	case "Hiragana":
		return api.Hiragana
	case "Katakana":
		return api.Katakana
	case "Hangul":
		return api.Hangul
	}
	return api.Common
}

func digits(name string) uint8 {
	switch name {
	case "ascii":
		return api.DigitsASCII
	case "arabic":
		return api.DigitsArabic
	case "east":
		return api.DigitsEast
	case "deva":
		return api.DigitsDeva
	case "wide":
		return api.DigitsWide
	}
	return api.DigitsNone
}
