package ucd

import (
	"strconv"
	"strings"

	"fascia/api"
)

// row returns the text of the row at index i of the table.
func row(i int) string {
	return table[i*rowSize : (i+1)*rowSize]
}

func first(row string) rune { return rune(number(row[0:4], 16)) }

func last(row string) rune { return rune(number(row[5:9], 16)) }

func prop(row string) api.Prop {
	return api.Prop{
		Cat:    category(name(row[10:17])),
		Bidi:   bidi(name(row[18:21])),
		Join:   join(name(row[22:27])),
		CCC:    uint8(number(row[28:31], 10)),
		Script: script(name(row[32:42])),
		Digits: digits(name(row[43:49])),
		Width:  uint8(number(row[50:51], 10)),
	}
}

// name returns what is in a column without the spaces that fill it up.
func name(column string) string {
	return strings.TrimRight(column, " ")
}

// number reads a column of digits. An error is not asked for: the columns of
// the table have nothing else.
func number(column string, base int) int64 {
	n, _ := strconv.ParseInt(strings.TrimLeft(column, " "), base, 32)
	return n
}
