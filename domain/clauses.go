package domain

import (
	"fascia/api"
	"fascia/context"
)

// clauses tells of each clause, by its number, whether it is violated.
type clauses [api.ClauseEmpty + 1]bool

// add takes the number of a clause that is violated, or 0 for none.
func (c *clauses) add(number uint8) {
	if number != 0 {
		c[number] = true
	}
}

// addContext adds what the code points of l violate where they stand. Check
// tells at once that none does, where At would go through l for each of them.
func (c *clauses) addContext(l []rune) {
	if context.Check(l) == 0 {
		return
	}
	for i := range l {
		c.add(context.At(l, i))
	}
}

func (c clauses) numbers() []uint8 {
	var out []uint8
	for number, violated := range c {
		if violated {
			out = append(out, uint8(number))
		}
	}
	return out
}
