package puny

import (
	"iter"
	"slices"
	"strings"

	"fascia/api"
)

const (
	base       = 36
	digitBytes = "abcdefghijklmnopqrstuvwxyz0123456789" // by their values
)

// deltas yields the deltas of the scalars of l that are not basic, in the order
// in which they are inserted; h is the number of those that are basic. They
// are of 64 bits, as that of the last place of a long list is beyond 32.
func deltas(l []rune, h int64) iter.Seq[int64] {
	return func(yield func(int64) bool) {
		n, i := int64(firstOther), int64(0)
		for _, m := range others(l) {
			p := int64(0) // how many of those so far stand before
			for _, r := range l {
				if r == m {
					if !yield((int64(m)-n)*(h+1) + p - i) {
						return
					}
					h++
					n, i = int64(m), p+1
				}
				if r <= m {
					p++
				}
			}
		}
	}
}

// others returns the scalars of l that are not basic, each once, in increasing order.
func others(l []rune) []rune {
	var out []rune
	for _, r := range l {
		if r >= firstOther {
			out = append(out, r)
		}
	}
	slices.Sort(out)
	return slices.Compact(out)
}

// read yields the deltas that the digits of s say, each with true; h is the
// number of basic scalars before them. Where s says none, it yields 0 and
// false, and ends.
func read(s string, h int64) iter.Seq2[int64, bool] {
	return func(yield func(int64, bool) bool) {
		b := firstBias()
		for s != "" {
			d, size := number(s, b, (api.MaxRune+1)*(h+1))
			if !yield(d, size > 0) || size == 0 {
				return
			}
			s = s[size:]
			h++
			b.follow(d, h)
		}
	}
}

// number returns the delta that s begins with, and how many digits it has: 0
// and 0 if it is cut off, has what is no digit, or is not below the limit, at
// which no scalar is reached any more. The limit keeps the sum from wrapping
// round, too.
func number(s string, b bias, limit int64) (d int64, size int) {
	weight := int64(1)
	for k := 1; k <= len(s); k++ {
		c := int64(strings.IndexByte(digitBytes, s[k-1]))
		if c < 0 {
			return 0, 0
		}
		d += c * weight
		if d >= limit {
			return 0, 0
		}
		t := b.threshold(k)
		if c < t {
			return d, k
		}
		weight *= base - t
	}
	return 0, 0
}

// addDigits appends the digits of the delta d to out.
func addDigits(out []byte, d int64, b bias) []byte {
	for k := 1; ; k++ {
		t := b.threshold(k)
		if d < t {
			return append(out, digitBytes[d])
		}
		out = append(out, digitBytes[t+(d-t)%(base-t)])
		d = (d - t) / (base - t)
	}
}

// bias says where the thresholds of a delta's digits lie; it follows the deltas so far.
type bias struct {
	lead int64 // how far the thresholds are behind the places of the digits
	part int64 // what the next delta is divided by
}

func firstBias() bias {
	return bias{lead: 72, part: 700}
}

// threshold is that of the k-th digit, from 1 on.
func (b bias) threshold(k int) int64 {
	return min(max(base*int64(k)-b.lead, 1), 26)
}

// follow sets the bias behind the delta d, with which there are h scalars.
func (b *bias) follow(d, h int64) {
	d /= b.part
	d += d / h
	k := int64(0)
	for d > 455 {
		d /= 35
		k += base
	}
	b.lead = k + base*d/(d+38)
	b.part = 2
}
