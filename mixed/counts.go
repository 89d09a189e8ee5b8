package mixed

import (
	"fascia/api"
	"fascia/ucd"
)

// counts tells for each script, by its number, how many code points are of it.
type counts [api.Hangul + 1]int

// count counts the code points of l that have a script of their own.
func count(l []rune) counts {
	var c counts
	for _, r := range l {
		c[ucd.Of(r).Script]++
	}
	return c.without(api.Common, api.Inherited)
}

func (c counts) without(these ...uint8) counts {
	for _, script := range these {
		c[script] = 0
	}
	return c
}

// only reports whether c has no scripts but these.
func (c counts) only(these ...uint8) bool {
	return c.without(these...) == counts{}
}

func (c counts) scripts() []uint8 {
	var out []uint8
	for script, n := range c {
		if n > 0 {
			out = append(out, uint8(script))
		}
	}
	return out
}

func (c counts) eastAsian() bool {
	return c.only(api.Han, api.Hiragana, api.Katakana) || c.only(api.Han, api.Hangul)
}

func (c counts) together() bool {
	return len(c.scripts()) <= 1 || c.eastAsian()
}

// level returns the restriction level of what is not all ASCII.
func (c counts) level() uint8 {
	switch {
	case c.together():
		return api.OneScript
	case c.without(api.Latin).eastAsian():
		return api.FewScripts
	}
	return api.AnyScripts
}
