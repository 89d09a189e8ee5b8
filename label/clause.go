package label

import (
	"slices"

	"fascia/api"
	"fascia/norm"
	"fascia/ucd"
)

const (
	hyphen = '-'
	dot    = '.'
)

// clause is what a label may violate.
type clause struct {
	number   uint8
	edges    bool // it is asked for only with edges
	violated func(l []rune) bool
}

// clauses returns all of them, in the order in which they are asked for: empty
// is the first, so that the others have a code point to look at.
func clauses() []clause {
	return []clause{
		{api.ClauseEmpty, false, empty},
		{api.ClauseNorm, false, unnormalized},
		{api.ClauseHyphen, true, hyphensInside},
		{api.ClauseEdge, true, hyphenAtEdge},
		{api.ClauseDot, false, dotted},
		{api.ClauseMark, false, markFirst},
		{api.ClauseCode, false, disallowed},
	}
}

func empty(l []rune) bool {
	return len(l) == 0
}

func unnormalized(l []rune) bool {
	return !norm.Is(l)
}

// hyphensInside: what A-labels have at these two places, no other label may have.
func hyphensInside(l []rune) bool {
	return len(l) >= 4 && l[2] == hyphen && l[3] == hyphen
}

func hyphenAtEdge(l []rune) bool {
	return l[0] == hyphen || l[len(l)-1] == hyphen
}

func dotted(l []rune) bool {
	return slices.Contains(l, dot)
}

func markFirst(l []rune) bool {
	return ucd.Of(l[0]).Cat == api.CatMark
}

func disallowed(l []rune) bool {
	return slices.ContainsFunc(l, func(r rune) bool { return !Code(r) })
}
