package label

import (
	"slices"

	"fascia/api"
	"fascia/norm"
	"fascia/remap"
	"fascia/ucd"
)

// The chapter's words, followed one by one.

// order: the clauses as the chapter has them.
var order = []uint8{api.ClauseEmpty, api.ClauseNorm, api.ClauseHyphen, api.ClauseEdge, api.ClauseDot, api.ClauseMark, api.ClauseCode}

func allowed(r rune) bool {
	_, status := remap.One(r)
	return status == api.MapValid
}

// all returns which clauses l violates, whether they are asked for or not.
func all(l []rune) map[uint8]bool {
	out := map[uint8]bool{}
	out[api.ClauseEmpty] = len(l) == 0
	out[api.ClauseNorm] = !slices.Equal(norm.NFC(l), l)
	for i, r := range l {
		first, last := i == 0, i == len(l)-1
		if r == 0x2D && i == 3 && l[2] == 0x2D {
			out[api.ClauseHyphen] = true
		}
		if r == 0x2D && (first || last) {
			out[api.ClauseEdge] = true
		}
		if r == 0x2E {
			out[api.ClauseDot] = true
		}
		if first && ucd.Of(r).Cat == api.CatMark {
			out[api.ClauseMark] = true
		}
		if !allowed(r) {
			out[api.ClauseCode] = true
		}
	}
	return out
}

func reference(l []rune, edges bool) uint8 {
	violated := all(l)
	for _, c := range order {
		asked := edges || c != api.ClauseHyphen && c != api.ClauseEdge
		if asked && violated[c] {
			return c
		}
	}
	return 0
}
