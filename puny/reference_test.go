package puny

import (
	"math/big"
	"slices"
	"strings"
)

// The chapter's words, followed one by one with numbers of any size. Nothing
// here checks what is a scalar, so that texts of what is none can be made, too.

const byValue = "abcdefghijklmnopqrstuvwxyz0123456789"

// writer writes deltas behind h scalars.
type writer struct {
	out     strings.Builder
	h, bias int64
	later   bool
	n, i    int64
}

func newWriter(basic string) *writer {
	w := &writer{h: int64(len(basic)), bias: 72, n: 128}
	w.out.WriteString(basic)
	if basic != "" {
		w.out.WriteByte('-')
	}
	return w
}

func thresholdOf(k, bias int64) int64 {
	switch t := 36*k - bias; {
	case t < 1:
		return 1
	case t > 26:
		return 26
	default:
		return t
	}
}

// biasAfter is the bias after d, with h scalars.
func biasAfter(d *big.Int, h int64, later bool) int64 {
	by := int64(700)
	if later {
		by = 2
	}
	d = new(big.Int).Div(d, big.NewInt(by))
	d.Add(d, new(big.Int).Div(d, big.NewInt(h)))
	k := int64(0)
	for d.Cmp(big.NewInt(455)) > 0 {
		d.Div(d, big.NewInt(35))
		k += 36
	}
	return k + 36*d.Int64()/(d.Int64()+38)
}

func (w *writer) delta(d *big.Int) {
	left := new(big.Int).Set(d)
	for k := int64(1); ; k++ {
		t := thresholdOf(k, w.bias)
		if left.Cmp(big.NewInt(t)) < 0 {
			w.out.WriteByte(byValue[left.Int64()])
			break
		}
		rest := new(big.Int)
		left.DivMod(left.Sub(left, big.NewInt(t)), big.NewInt(36-t), rest)
		w.out.WriteByte(byValue[t+rest.Int64()])
	}
	w.h++
	w.bias = biasAfter(d, w.h, w.later)
	w.later = true
}

// insert writes the delta of m at the place p; m is not below the last one.
func (w *writer) insert(m, p int64) {
	d := big.NewInt(m - w.n)
	d.Mul(d, big.NewInt(w.h+1))
	d.Add(d, big.NewInt(p-w.i))
	w.delta(d)
	w.n, w.i = m, p+1
}

// textOf is the text of l: the places of the others, sorted by scalar and then by place.
func textOf(l []rune) string {
	var basic []byte
	var at []int
	for i, r := range l {
		if r < 128 {
			basic = append(basic, byte(r))
		} else {
			at = append(at, i)
		}
	}
	slices.SortStableFunc(at, func(a, b int) int { return int(l[a]) - int(l[b]) })
	w := newWriter(string(basic))
	for done, i := range at {
		p := 0
		for j := range i {
			if l[j] < 128 || slices.Contains(at[:done], j) {
				p++
			}
		}
		w.insert(int64(l[i]), int64(p))
	}
	return w.out.String()
}

// listOf is the list whose text s is, and whether there is one.
func listOf(s string) ([]rune, bool) {
	basic, digits := "", s
	if at := strings.LastIndex(s, "-"); at == 0 {
		return nil, false
	} else if at > 0 {
		basic, digits = s[:at], s[at+1:]
	}
	l := []rune{}
	for i := 0; i < len(basic); i++ {
		if basic[i] > 127 {
			return nil, false
		}
		l = append(l, rune(basic[i]))
	}
	n, i, bias, later := big.NewInt(128), int64(0), int64(72), false
	for digits != "" {
		d, rest, ok := deltaOf(digits, bias)
		if !ok {
			return nil, false
		}
		digits = rest
		h := big.NewInt(int64(len(l)) + 1)
		add, p := new(big.Int).DivMod(new(big.Int).Add(d, big.NewInt(i)), h, new(big.Int))
		n.Add(n, add)
		if n.Cmp(big.NewInt(0x10FFFF)) > 0 || n.Int64() >= 0xD800 && n.Int64() <= 0xDFFF {
			return nil, false
		}
		l = slices.Insert(l, int(p.Int64()), rune(n.Int64()))
		i = p.Int64() + 1
		bias, later = biasAfter(d, h.Int64(), later), true
	}
	return l, true
}

// deltaOf reads a delta: all digits up to the one below its threshold, then their value from the last one back.
func deltaOf(s string, bias int64) (d *big.Int, rest string, ok bool) {
	for k := 1; k <= len(s); k++ {
		c := strings.IndexByte(byValue, s[k-1])
		if c < 0 {
			return nil, "", false
		}
		if int64(c) >= thresholdOf(int64(k), bias) {
			continue
		}
		d = big.NewInt(int64(c))
		for j := k - 1; j >= 1; j-- {
			t := thresholdOf(int64(j), bias)
			d.Mul(d, big.NewInt(36-t))
			d.Add(d, big.NewInt(int64(strings.IndexByte(byValue, s[j-1]))))
		}
		return d, s[k:], true
	}
	return nil, "", false
}
